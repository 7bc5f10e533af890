/-
  The walk of the statement MailGone: for any frames, any numbers and either end it returns true, and nothing that was there has changed.
-/
import Derived.Test.YtjekkjmjiljaeaaB10o
import Derived.Test.YtjekkjmjiljaeaaM10b
import Derived.Test.YtjekkjmjiljaeaaMp
import Derived.Test.YtjekkjmjiljaeaaB10
namespace Go.Proofs.Ytjekkjmjiljaeaa
open Go.RowKit Go.Sort Go.Maps
set_option linter.unusedVariables false

theorem elF : ElK Try.prog 47 34 5 (.agg frZr) 32 := ⟨by kernel_rfl, by kernel_rfl, by kernel_rfl, by kernel_rfl, rfl, by omega⟩

theorem ri_len {id : Nat} {ext rem : Bool} {dlc n : Nat} (h : riF id ext rem dlc n = true) : n ≤ 1000000 := by
  unfold riF at h
  simp only [Bool.and_eq_true, decide_eq_true_eq] at h
  have := h.2
  unfold lonF at this
  split at this <;> omega

/-- The start, whether one waits or none. -/
theorem gone_start {B : Nat} {w : World} {g : Nat} {m : Ml} {a : Option Addr} {c room : Nat} {S : Nat → Prop} (h : MlO B w g m a c S) (hP : PutsM m room) :
    Calls Try.prog 23 #[.pointer (some ⟨g, 0, none⟩)] w fun e w' => ∃ (m' : Ml) (W : Nat) (on : Bool), e = .returned (.tuple #[.int .i64 (W : Int), .bool on]) ∧ Hid (on = decide (W ≠ 0)) ∧ GonP m' m.puts W [] ∧ MlO B w' g m' a c S ∧ Ch S w w' := by
  by_cases h0 : m.ws = []
  · have hG := GonP.start0 hP h0
    have hp : m.puts = 0 := by rw [← hP.le, h0]; rfl
    refine (start_no h h0).mono ?_
    rintro e w' ⟨rfl, rfl⟩
    exact ⟨m, 0, false, rfl, rfl, by rw [hp]; exact hG, h, Ch.refl S w⟩
  · obtain ⟨p, hp⟩ := beM_some hP.i h0
    have hm := beM_num hp
    have hn := (hP.i.no p hm).1
    refine (start_any h p hp).mono ?_
    rintro e w' ⟨rfl, h1, h2⟩
    exact ⟨_, p.2, true, rfl, hid (show true = decide (p.2 ≠ 0) by simp; omega), GonP.start hP hm, h1, h2⟩

theorem mailGone_new (w : World) : Calls Try.prog 9 #[.int .i64 20] w fun e w' => ∃ g, e = .returned (.tuple #[.pointer (some ⟨g, 0, none⟩), .int .i64 0]) ∧ MlO w.heap.size w' g (neM 20) none 0 (fun b => b = g) ∧ w.heap.size ≤ g ∧ Below w.heap.size w w' := mlNew_any w 20 (by omega) (by omega)

theorem abort_wireN {B : Nat} {w : World} {g : Nat} {m : Ml} {a : Option Addr} {c : Nat} {S : Nat → Prop} (h : MlO B w g m a c S) (N : Nat) (hN : m.wire = N) (hw : hasW (N : Int) m.ws = true) :
    Calls Try.prog 26 #[.pointer (some ⟨g, 0, none⟩), .int .i64 (N : Int)] w fun e w' => e = .returned (.tuple #[.bool false, .int .i64 0]) ∧ Mle B w g { m with ab := true } a c S w' := by
  subst hN; exact abort_wire h hw

set_option maxRecDepth 100000 in
set_option maxHeartbeats 16000000 in
theorem mailGone_walk (w : World) (a0 : Option Addr) (n0 c0 : Nat) (fs : List Ff) (a1 : Option Addr) (n1 c1 : Nat) (xs : List UInt8) (sent : Bool)
    (hf : FrR w a0 n0 c0 fs) (hx : RL bv w a1 n1 c1 xs) (hd : ∀ p ∈ fs, p.1.data.length ≤ 9223372036854775807) (m0 : n0 ≤ 9223372036854775807) (m1 : n1 ≤ 9223372036854775807) :
    Calls Try.prog 6 #[.slice a0 n0 c0, .slice a1 n1 c1, .bool sent] w fun e w' => e = .returned (.bool true) ∧ Below w.heap.size w w' := by
  obtain ⟨L, hmin, hL1, hL2⟩ : ∃ L : Nat, (∀ ts t w', (Builtin.min_ ts t #[.int .i64 (n0 : Int), .int .i64 20]).run Try.prog w' = .ok (.int .i64 (L : Int)) w') ∧ L ≤ n0 ∧ L ≤ 20 := by
    refine ⟨min n0 20, fun ts t w' => ?_, by omega, by omega⟩
    rw [run_min_int2]; congr 2; split <;> omega
  obtain ⟨G, hmin2, hG1, hG2⟩ : ∃ G : Nat, (∀ ts t w', (Builtin.min_ ts t #[.int .i64 (n1 : Int), .int .i64 30]).run Try.prog w' = .ok (.int .i64 (G : Int)) w') ∧ G ≤ n1 ∧ G ≤ 30 := by
    refine ⟨min n1 30, fun ts t w' => ?_, by omega, by omega⟩
    rw [run_min_int2]; congr 2; split <;> omega
  have hmm := @run_makeMap Try.prog
  have HF := hid hf; clear hf
  have HX := hid hx; clear hx hd
  go_enter Try.func6, Try.ntmps6
  go_wp2_with (first
    | (go_at_call 9; (with_reducible refine (mailGone_new _).mono ?_); rintro e w1 ⟨g, rfl, h1, l1, g1⟩)
    | (with_reducible refine wpList_cutToK0 elF rfl _ _ rfl _ _ L rfl rfl rfl HF.out.row hL1 ?_; intro a5 hr5))
  go_loopg [9, 38] L (fun gn vm vi wr => ∃ (k : Nat) (m : Ml) (a : Option Addr) (c : Nat) (S : Nat → Prop), k ≤ L ∧ gn = L - k ∧ vi = .int .i64 (k : Int) ∧ vm = .int .i64 (m.puts : Int) ∧ MlO w.heap.size wr g m a c S ∧ PutsM m 20 ∧ m.puts ≤ k ∧ Below w.heap.size w wr)
  case atStart => exact ⟨0, neM 20, none, 0, _, by omega, by omega, rfl, rfl, h1, PutsM.new 20, Nat.le_refl _, g1⟩
  case round =>
    obtain ⟨k, m, a, c, S, hk, rfl, rfl, rfl, hm, hP, hpk, gg⟩ := hrel
    clear h1 g1
    by_cases hlt : k < L
    · obtain ⟨p, hp⟩ : ∃ p, (fs.take L)[k]? = some p := ⟨_, List.getElem?_eq_getElem (by rw [hr5.len]; exact hlt)⟩
      have hpm : p ∈ fs := List.mem_of_mem_take (List.mem_of_getElem? hp)
      obtain ⟨gb, off, rfl, hgb, hrg⟩ := (hr5.below gg).range hp
      have hdat := HF.out.dat p hpm
      have hid' := HF.out.id p hpm
      have hdl' := HF.out.dl p hpm
      have b2 := heap_alloc_new wr (.cells frZr 34)
      have k2 : Below wr.heap.size wr ((wr.alloc (.cells frZr 34)).setRow wr.heap.size (frV p.1 p.2.1 p.2.2)) := below_setRow (bnew0 wr _) (Nat.le_refl _) _
      have b3 : ((wr.alloc (.cells frZr 34)).setRow wr.heap.size (frV p.1 p.2.1 p.2.2)).heap[wr.heap.size]? = some (.cells (frV p.1 p.2.1 p.2.2) 34 (0, 0)) := setRow_heap _ _ _ _ _ _ b2
      have hm2 := hm.below k2
      have gg2 := bstep gg k2
      have hP2 := hid hP
      have hle := hP.le
      have hrm := hP.rm
      clear hP hp
      cases hri : riF p.1.id p.1.ext p.1.rem p.1.dlc p.1.data.length
      · have hput := put_wrong hm2 p.1 p.2.1 p.2.2 hid' hdl' hri
        clear hri
        go_wp2_with (first
          | (with_reducible refine wpList_loadM rowF rfl _ rfl _ _ rfl (frV p.1 p.2.1 p.2.2) hrg rfl ?_)
          | (with_reducible refine wpList_storeR rowF rfl _ _ rfl _ _ rfl rfl b2 rfl rfl (fr_ones _ _ _) ?_)
          | (with_reducible refine wpList_loadR rowF rfl _ rfl _ rfl b3 rfl ?_)
          | (go_at_call 22; (with_reducible refine hput.mono ?_); rintro e w3 ⟨rfl, g3⟩))
        go_roundg (L - (k + 1))
        case measure => omega
        case rel => exact ⟨k + 1, m, a, c, S, by omega, rfl, by go_num, rfl, hm2.below g3, hP2.out, by omega, bstep gg2 g3⟩
      · have hput := mlPut_any hm2 p.1 p.2.1 p.2.2 hid' hdl' hri (by omega) (by omega) (fun w' kk => hdat.below (kk.below gg2 (Nat.le_refl _) hm2.sB)) (ri_len hri)
        clear hri
        go_wp2_with (first
          | (with_reducible refine wpList_loadM rowF rfl _ rfl _ _ rfl (frV p.1 p.2.1 p.2.2) hrg rfl ?_)
          | (with_reducible refine wpList_storeR rowF rfl _ _ rfl _ _ rfl rfl b2 rfl rfl (fr_ones _ _ _) ?_)
          | (with_reducible refine wpList_loadR rowF rfl _ rfl _ rfl b3 rfl ?_)
          | (go_at_call 22; (with_reducible refine hput.mono ?_); rintro e w3 ⟨a3, c3, S3, da, dc, rfl, h3, r3, s3⟩))
        go_roundg (L - (k + 1))
        case measure => omega
        case rel => exact ⟨k + 1, puM p.1 da dc m, a3, c3, S3, by omega, rfl, by go_num, rfl, h3, hP2.out.put _ _ _, by show m.puts + 1 ≤ k + 1; omega, r3.below gg2 (Nat.le_refl _) hm2.sB⟩
    · obtain rfl : k = L := by omega
      go_wp2_with (first
        | (go_at_call 23; (with_reducible refine (gone_start hm hP).mono ?_); rintro e w2 ⟨m2, W, on, rfl, HON, hG, h2, r2⟩)
        | (with_reducible refine wpList_cutTo0 (f := bv) tY rfl _ _ rfl _ _ G rfl rfl rfl HX.out hG1 ?_; intro a6 hx6))
      have gg2 := r2.below gg (Nat.le_refl _) hm.sB
      have hpl : m.puts ≤ 20 := by omega
      generalize m.puts = P at *
      clear hm hP r2 gg hr5 hL1 HF
      have hbm : ¬ S w2.heap.size := fun e => by have := h2.sL _ e; omega
      have hmp0 := World.ownsMap_made (H := Unit) w2 Try.prog 3 (plainElem Try.prog 3)
      have h3 := h2.alloc (.map #[] 0)
      have gg3 := bnew gg2 (.map #[] 0)
      have hzb : w.heap.size ≤ w2.heap.size := gg2.size
      obtain ⟨bm, hbmE⟩ : ∃ bm, bm = w2.heap.size := ⟨_, rfl⟩
      rw [← hbmE] at hbm hmp0 hzb
      obtain ⟨w3, hw3⟩ : ∃ w3, w3 = w2.alloc (.map #[] 0) := ⟨_, rfl⟩
      rw [← hw3] at hmp0 h3 gg3
      rw [← hbmE, ← hw3]
      clear hbmE hw3 h2 gg2
      go_loopg [64] G (fun gn vi wr => ∃ (k : Nat) (m : Ml) (D : DataW Unit) (nD : Nat) (ts : List Int), k ≤ G ∧ gn = G - k ∧ vi = .int .i64 (k : Int) ∧ MlO w.heap.size wr g m a c S ∧ GonP m P W ts ∧ MI wr bm nD D ∧ HitD D ts ∧ nD ≤ k ∧ ts.length ≤ k ∧ Below w.heap.size w wr)
      case atStart => exact ⟨0, m2, _, 0, [], by omega, by omega, rfl, h3, hG, hmp0, hit_made, Nat.le_refl _, Nat.le_refl _, gg3⟩
      case round =>
        clear h3 hmp0 hG gg3
        obtain ⟨k, m, D, nD, ts, hk, rfl, rfl, hm, hG, hmi, hD, hnD, hts, gg⟩ := hrel
        by_cases hlt : k < G
        · obtain ⟨bk, off, x, rfl, hx, hcx⟩ := (hx6.below gg).at hlt
          unfold bv at hcx
          have hx256 : x.toNat < 256 := x.toNat_lt
          obtain ⟨mo, hmo, hmo2⟩ : ∃ mo : Nat, (x.toNat : Int) % 22 = (mo : Int) ∧ mo < 22 := ⟨x.toNat % 22, by omega, by omega⟩
          obtain ⟨N, hN, hN1, hN2⟩ : ∃ N : Nat, (mo : Int) + 1 = (N : Int) ∧ 1 ≤ N ∧ N ≤ 22 := ⟨mo + 1, by omega, by omega, by omega⟩
          have hwf := wf64 (N : Int) (by omega) (by omega)
          obtain ⟨cv, hat, hc0, hc1, hc2⟩ := hD.2 (N : Int)
          have HAT := hid hat; clear hat
          have hmx : nD < maxLen := Nat.lt_of_le_of_lt (by omega : nD ≤ 30) (by decide)
          have hbmw : bm < wr.heap.size := hmi.lt
          clear hx
          have HG := hid hG
          have HD := hid hD
          have hwi := hG.wi
          by_cases hNP : N ≤ P
          · have hd1 : decide (N ≤ P) = true := decide_eq_true hNP
            have hhas := hG.has N hN1 hNP
            have hle := hG.le
            clear hG hD
            by_cases hNW : N = W
            · subst hNW
              have hW : hasW (N : Int) m.ws = true := hasN_W.2 (hhas.2 (.inr rfl))
              have habw := abort_wireN hm N hwi hW
              clear hhas hwi hW hNP
              by_cases hcz : cv = 0
              · subst hcz
                clear hc2
                have hab := habw
                go_wp2_with (first
                  | (go_at_call 26; (with_reducible refine hab.mono ?_); rintro e w4 ⟨rfl, h4, r4⟩
                     have hmi4 := hmi.ch r4 hbm
                     have hl4 := mi_look hmi4 HAT.out hwf
                     have gg4 := r4.below gg (Nat.le_refl _) hm.sB)
                  | (at_mapUpdate; refine wpList_mapUpdate_own _ rfl _ _ _ 51 rfl 3 3 lawI Try.underlying51 _ bm nD D rfl hmi4 hmx _ (.int .i64 (0 + 1)) (.int .i64 (N : Int)) rfl rfl (keyOf_int_mk Try.underlying3 hwf) (.lit (.int .i64 (0 + 1))) [] (plainElem_int Try.underlying3 (wf64 _ (by omega) (by omega))) ?_; intro w5 hmi5 hgr5))
                have k5 : Ch (fun b => b = bm) w4 w5 := ⟨hgr5.os, hgr5.tape, hgr5.output, hgr5.size, fun b hb hn => hgr5.block b hb (fun e => hn (by simpa using e))⟩
                have gg5 := gg4.grown hgr5 gg4.size (fun q hq => by cases hq; exact hzb)
                go_roundg (G - (k + 1))
                case measure => omega
                case rel => exact ⟨k + 1, { m with ab := true }, _, nD + 1, ts ++ [(N : Int)], by omega, rfl, by go_num, h4.ch k5 (fun b hb e => hbm (by rw [← e]; exact hb)), HG.out.give (by omega), hmi5, hit_put HD.out HAT.out, by omega, by simp; omega, gg5⟩
              · have hb0 : (cv == 0) = false := by rw [beq_eq_false_iff_ne]; exact hcz
                clear hc2 hcz
                have hab := habw
                go_wp2_with (first
                  | (go_at_call 26; (with_reducible refine hab.mono ?_); rintro e w4 ⟨rfl, h4, r4⟩
                     have hmi4 := hmi.ch r4 hbm
                     have hl4 := mi_look hmi4 HAT.out hwf
                     have gg4 := r4.below gg (Nat.le_refl _) hm.sB)
                  | (at_mapUpdate; refine wpList_mapUpdate_own _ rfl _ _ _ 51 rfl 3 3 lawI Try.underlying51 _ bm nD D rfl hmi4 hmx _ (.int .i64 (cv + 1)) (.int .i64 (N : Int)) rfl rfl (keyOf_int_mk Try.underlying3 hwf) (.lit (.int .i64 (cv + 1))) [] (plainElem_int Try.underlying3 (wf64 _ (by omega) (by omega))) ?_; intro w5 hmi5 hgr5))
                have k5 : Ch (fun b => b = bm) w4 w5 := ⟨hgr5.os, hgr5.tape, hgr5.output, hgr5.size, fun b hb hn => hgr5.block b hb (fun e => hn (by simpa using e))⟩
                have gg5 := gg4.grown hgr5 gg4.size (fun q hq => by cases hq; exact hzb)
                go_roundg (G - (k + 1))
                case measure => omega
                case rel => exact ⟨k + 1, { m with ab := true }, _, nD + 1, ts ++ [(N : Int)], by omega, rfl, by go_num, h4.ch k5 (fun b hb e => hbm (by rw [← e]; exact hb)), HG.out.give (by omega), hmi5, hit_put HD.out HAT.out, by omega, by simp; omega, gg5⟩
            · have hb1 : ((N : Int) == (W : Int)) = false := by rw [beq_eq_false_iff_ne]; omega
              have hb2 : ((N : Int) != (W : Int)) = true := by rw [bne_iff_ne]; omega
              by_cases hcz : cv = 0
              · subst hcz
                have hnt := hc2.1 rfl
                have hW : hasW (N : Int) m.ws = true := hasN_W.2 (hhas.2 (.inl hnt))
                have haby := abort_yes hm N hW (by rw [hwi]; exact hNW)
                have HNW := hid hNW
                clear hc2 hnt hhas hW hwi hNW hNP
                have hab := haby
                go_wp2_with (first
                  | (go_at_call 26; (with_reducible refine hab.mono ?_); rintro e w4 ⟨rfl, h4, r4⟩
                     have hmi4 := hmi.ch r4 hbm
                     have hl4 := mi_look hmi4 HAT.out hwf
                     have gg4 := r4.below gg (Nat.le_refl _) hm.sB)
                  | (at_mapUpdate; refine wpList_mapUpdate_own _ rfl _ _ _ 51 rfl 3 3 lawI Try.underlying51 _ bm nD D rfl hmi4 hmx _ (.int .i64 (0 + 1)) (.int .i64 (N : Int)) rfl rfl (keyOf_int_mk Try.underlying3 hwf) (.lit (.int .i64 (0 + 1))) [] (plainElem_int Try.underlying3 (wf64 _ (by omega) (by omega))) ?_; intro w5 hmi5 hgr5))
                have k5 : Ch (fun b => b = bm) w4 w5 := ⟨hgr5.os, hgr5.tape, hgr5.output, hgr5.size, fun b hb hn => hgr5.block b hb (fun e => hn (by simpa using e))⟩
                have gg5 := gg4.grown hgr5 gg4.size (fun q hq => by cases hq; exact hzb)
                go_roundg (G - (k + 1))
                case measure => omega
                case rel => exact ⟨k + 1, rmM N m, _, nD + 1, ts ++ [(N : Int)], by omega, rfl, by go_num, h4.ch k5 (fun b hb e => hbm (by rw [← e]; exact hb)), HG.out.rm HNW.out, hmi5, hit_put HD.out HAT.out, by omega, by simp; omega, gg5⟩
              · have hb0 : (cv == 0) = false := by rw [beq_eq_false_iff_ne]; exact hcz
                have hit : (N : Int) ∈ ts := Classical.byContradiction fun h => hcz (hc2.2 h)
                have hW : hasW (N : Int) m.ws = false := by
                  cases e : hasW (N : Int) m.ws with
                  | false => rfl
                  | true =>
                    rcases hhas.1 (hasN_W.1 e) with h | h
                    · exact absurd hit h
                    · exact absurd h hNW
                have hab := abort_no hm (N : Int) hW
                clear hc2 hcz hit hhas hW hwi hNW hNP
                go_wp2_with (first
                  | (go_at_call 26; (with_reducible refine hab.mono ?_); rintro e w4 ⟨rfl, g4⟩; have hmi4 := hmi.below g4; have hl4 := mi_look hmi4 HAT.out hwf))
                go_roundg (G - (k + 1))
                case measure => omega
                case rel => exact ⟨k + 1, m, D, nD, ts, by omega, rfl, by go_num, hm.below g4, HG.out, hmi.below g4, HD.out, by omega, by omega, bstep gg g4⟩
          · have hd1 : decide (N ≤ P) = false := decide_eq_false hNP
            have hab := abort_no hm (N : Int) (hG.no (by omega))
            clear hG hD hwi hNP hc2
            go_wp2_with (first
              | (go_at_call 26; (with_reducible refine hab.mono ?_); rintro e w4 ⟨rfl, g4⟩; have hmi4 := hmi.below g4; have hl4 := mi_look hmi4 HAT.out hwf))
            go_roundg (G - (k + 1))
            case measure => omega
            case rel => exact ⟨k + 1, m, D, nD, ts, by omega, rfl, by go_num, hm.below g4, HG.out, hmi.below g4, HD.out, by omega, by omega, bstep gg g4⟩
        · obtain rfl : k = G := by omega
          have HD := hid hD
          have hPb : P ≤ 1000 := by omega
          cases sent
          · have hlo := lost_any hm hG.i
            have HFIN := hid (fun n h1 h2 => hG.lost (n := n) h1 h2)
            obtain ⟨m3, hm3⟩ : ∃ m3, m3 = loM m := ⟨_, rfl⟩
            rw [← hm3] at hlo HFIN
            clear hG hD hm3
            go_wp2_with (first
              | (go_at_call 24; (with_reducible refine hlo.mono ?_); rintro e w4 ⟨rfl, h4, r4⟩; have hmi4 := hmi.ch r4 hbm; have gg4 := r4.below gg (Nat.le_refl _) hm.sB))
            clear hm hmi gg r4 hlo
            go_loopg [25] P (fun gn vi wq => ∃ k3 : Nat, 1 ≤ k3 ∧ k3 ≤ P + 1 ∧ gn = P + 1 - k3 ∧ vi = .int .i64 (k3 : Int) ∧ MlO w.heap.size wq g m3 a c S ∧ MI wq bm nD D ∧ Below w.heap.size w wq)
            case atStart => exact ⟨1, Nat.le_refl _, by omega, by omega, rfl, h4, hmi4, gg4⟩
            case round =>
              obtain ⟨k3, hk1, hk2, rfl, rfl, hm3, hmi3, gg3⟩ := hrel
              clear h4 hmi4 gg4
              by_cases hlt3 : k3 ≤ P
              · have hwf := wf64 (k3 : Int) (by omega) (by omega)
                obtain ⟨cv, hat, hc0, hc1, hc2⟩ := HD.out.2 (k3 : Int)
                have HAT := hid hat; clear hat
                have hfin := HFIN.out k3 hk1 hlt3
                have hd3 : decide (k3 ≤ P) = true := decide_eq_true hlt3
                by_cases hcz : cv = 0
                · subst hcz
                  have hnt := hc2.1 rfl
                  have hW : hasW (k3 : Int) m3.ws = true := hasN_W.2 (hfin.2 hnt)
                  clear hnt hc2 hfin
                  have kW : ∀ d os, Calls Try.prog 16 #[.pointer (some ⟨g, 0, none⟩), .int .i64 (k3 : Int)] (grow (redrawn wr d) os) fun e w'' => e = .returned (.bool true) ∧ ∃ r : Regrown, w'' = grow (redrawn wr r.d) r.os := fun d os => by
                    have := waits_any (hm3.below (below_regrown wr d os)) (k3 : Int)
                    rw [hW] at this
                    exact Calls.regrown_of this
                  have hl : ∀ d os, (Instr.lookup 51 (.map (some bm)) (.int .i64 (k3 : Int)) false).run Try.prog (grow (redrawn wr d) os) = .ok (.int .i64 0) (grow (redrawn wr d) os) := fun d os => mi_look (hmi3.below (below_regrown wr d os)) HAT.out hwf
                  clear hW
                  go_wp2
                  refine wp_region_quiet_below (by kernel_rfl) (by kernel_rfl) ?_
                  repeat (go_big_quiet_step (first | (go_at_call 16; with_reducible exact kW _ _)))
                  refine wpQuiet_nil ?_
                  intro w9 hw9
                  have g9 : Below wr.heap.size wr w9 := by obtain ⟨p9, rfl⟩ := hw9; exact below_regrown _ _ _
                  clear hw9 kW hl
                  go_wp2
                  go_roundg (P + 1 - (k3 + 1))
                  case measure => omega
                  case rel => exact ⟨k3 + 1, by omega, by omega, rfl, by go_num, hm3.below g9, hmi3.below g9, bstep gg3 g9⟩
                · have hb0 : (cv == 0) = false := by rw [beq_eq_false_iff_ne]; exact hcz
                  have hit : (k3 : Int) ∈ ts := Classical.byContradiction fun h => hcz (hc2.2 h)
                  have hW : hasW (k3 : Int) m3.ws = false := by
                    cases e : hasW (k3 : Int) m3.ws with
                    | false => rfl
                    | true => exact absurd hit (hfin.1 (hasN_W.1 e))
                  clear hit hc2 hfin hcz
                  have kW : ∀ d os, Calls Try.prog 16 #[.pointer (some ⟨g, 0, none⟩), .int .i64 (k3 : Int)] (grow (redrawn wr d) os) fun e w'' => e = .returned (.bool false) ∧ ∃ r : Regrown, w'' = grow (redrawn wr r.d) r.os := fun d os => by
                    have := waits_any (hm3.below (below_regrown wr d os)) (k3 : Int)
                    rw [hW] at this
                    exact Calls.regrown_of this
                  have hl : ∀ d os, (Instr.lookup 51 (.map (some bm)) (.int .i64 (k3 : Int)) false).run Try.prog (grow (redrawn wr d) os) = .ok (.int .i64 cv) (grow (redrawn wr d) os) := fun d os => mi_look (hmi3.below (below_regrown wr d os)) HAT.out hwf
                  clear hW
                  go_wp2
                  refine wp_region_quiet_below (by kernel_rfl) (by kernel_rfl) ?_
                  repeat (go_big_quiet_step (first | (go_at_call 16; with_reducible exact kW _ _)))
                  refine wpQuiet_nil ?_
                  intro w9 hw9
                  have g9 : Below wr.heap.size wr w9 := by obtain ⟨p9, rfl⟩ := hw9; exact below_regrown _ _ _
                  clear hw9 kW hl
                  go_wp2
                  go_roundg (P + 1 - (k3 + 1))
                  case measure => omega
                  case rel => exact ⟨k3 + 1, by omega, by omega, rfl, by go_num, hm3.below g9, hmi3.below g9, bstep gg3 g9⟩
              · have hd3 : decide (k3 ≤ P) = false := decide_eq_false hlt3
                go_wp2_with (go_at_call 10; (with_reducible refine (awake10_any wr).mono ?_); rintro e w5 ⟨rfl, g5⟩)
                go_ret
                exact ⟨rfl, bstep gg3 g5⟩
          · have hse : Calls Try.prog 25 #[.pointer (some ⟨g, 0, none⟩)] wr fun e w' => e = .returned (.tuple #[.int .i64 (W : Int), .bool on]) ∧ Mle w.heap.size wr g (seM m) a c S w' := by
              have := sent_any hm hG.i
              rw [hG.wi, ← HON.out] at this
              exact this
            have HFIN := hid (fun n h1 h2 => hG.sent (n := n) h1 h2)
            obtain ⟨m3, hm3⟩ : ∃ m3, m3 = seM m := ⟨_, rfl⟩
            rw [← hm3] at hse HFIN
            clear hG hD hm3
            go_wp2_with (first
              | (go_at_call 25; (with_reducible refine hse.mono ?_); rintro e w4 ⟨rfl, h4, r4⟩; have hmi4 := hmi.ch r4 hbm; have gg4 := r4.below gg (Nat.le_refl _) hm.sB))
            clear hm hmi gg r4 hse
            go_loopg [25] P (fun gn vi wq => ∃ k3 : Nat, 1 ≤ k3 ∧ k3 ≤ P + 1 ∧ gn = P + 1 - k3 ∧ vi = .int .i64 (k3 : Int) ∧ MlO w.heap.size wq g m3 a c S ∧ MI wq bm nD D ∧ Below w.heap.size w wq)
            case atStart => exact ⟨1, Nat.le_refl _, by omega, by omega, rfl, h4, hmi4, gg4⟩
            case round =>
              obtain ⟨k3, hk1, hk2, rfl, rfl, hm3, hmi3, gg3⟩ := hrel
              clear h4 hmi4 gg4
              by_cases hlt3 : k3 ≤ P
              · have hwf := wf64 (k3 : Int) (by omega) (by omega)
                obtain ⟨cv, hat, hc0, hc1, hc2⟩ := HD.out.2 (k3 : Int)
                have HAT := hid hat; clear hat
                have hfin := HFIN.out k3 hk1 hlt3
                have hd3 : decide (k3 ≤ P) = true := decide_eq_true hlt3
                by_cases hcz : cv = 0
                · subst hcz
                  by_cases hkW : k3 = W
                  · have hb1 : ((k3 : Int) == (W : Int)) = true := by rw [beq_iff_eq]; omega
                    skip
                    have hW : hasW (k3 : Int) m3.ws = false := by
                      cases e : hasW (k3 : Int) m3.ws with
                      | false => rfl
                      | true => exact absurd hkW (hfin.1 (hasN_W.1 e)).2
                    clear hc2 hfin hkW
                    have kW : ∀ d os, Calls Try.prog 16 #[.pointer (some ⟨g, 0, none⟩), .int .i64 (k3 : Int)] (grow (redrawn wr d) os) fun e w'' => e = .returned (.bool false) ∧ ∃ r : Regrown, w'' = grow (redrawn wr r.d) r.os := fun d os => by
                      have := waits_any (hm3.below (below_regrown wr d os)) (k3 : Int)
                      rw [hW] at this
                      exact Calls.regrown_of this
                    have hl : ∀ d os, (Instr.lookup 51 (.map (some bm)) (.int .i64 (k3 : Int)) false).run Try.prog (grow (redrawn wr d) os) = .ok (.int .i64 0) (grow (redrawn wr d) os) := fun d os => mi_look (hmi3.below (below_regrown wr d os)) HAT.out hwf
                    clear hW
                    go_wp2
                    refine wp_region_quiet_below (by kernel_rfl) (by kernel_rfl) ?_
                    repeat (go_big_quiet_step (first | (go_at_call 16; with_reducible exact kW _ _)))
                    refine wpQuiet_nil ?_
                    intro w9 hw9
                    have g9 : Below wr.heap.size wr w9 := by obtain ⟨p9, rfl⟩ := hw9; exact below_regrown _ _ _
                    clear hw9 kW hl
                    go_wp2
                    go_roundg (P + 1 - (k3 + 1))
                    case measure => omega
                    case rel => exact ⟨k3 + 1, by omega, by omega, rfl, by go_num, hm3.below g9, hmi3.below g9, bstep gg3 g9⟩
                  · have hb1 : ((k3 : Int) == (W : Int)) = false := by rw [beq_eq_false_iff_ne]; omega
                    have hnt := hc2.1 rfl
                    have hW : hasW (k3 : Int) m3.ws = true := hasN_W.2 (hfin.2 ⟨hnt, hkW⟩)
                    clear hnt hc2 hfin hkW
                    have kW : ∀ d os, Calls Try.prog 16 #[.pointer (some ⟨g, 0, none⟩), .int .i64 (k3 : Int)] (grow (redrawn wr d) os) fun e w'' => e = .returned (.bool true) ∧ ∃ r : Regrown, w'' = grow (redrawn wr r.d) r.os := fun d os => by
                      have := waits_any (hm3.below (below_regrown wr d os)) (k3 : Int)
                      rw [hW] at this
                      exact Calls.regrown_of this
                    have hl : ∀ d os, (Instr.lookup 51 (.map (some bm)) (.int .i64 (k3 : Int)) false).run Try.prog (grow (redrawn wr d) os) = .ok (.int .i64 0) (grow (redrawn wr d) os) := fun d os => mi_look (hmi3.below (below_regrown wr d os)) HAT.out hwf
                    clear hW
                    go_wp2
                    refine wp_region_quiet_below (by kernel_rfl) (by kernel_rfl) ?_
                    repeat (go_big_quiet_step (first | (go_at_call 16; with_reducible exact kW _ _)))
                    refine wpQuiet_nil ?_
                    intro w9 hw9
                    have g9 : Below wr.heap.size wr w9 := by obtain ⟨p9, rfl⟩ := hw9; exact below_regrown _ _ _
                    clear hw9 kW hl
                    go_wp2
                    go_roundg (P + 1 - (k3 + 1))
                    case measure => omega
                    case rel => exact ⟨k3 + 1, by omega, by omega, rfl, by go_num, hm3.below g9, hmi3.below g9, bstep gg3 g9⟩
                · have hb0 : (cv == 0) = false := by rw [beq_eq_false_iff_ne]; exact hcz
                  have hit : (k3 : Int) ∈ ts := Classical.byContradiction fun h => hcz (hc2.2 h)
                  have hW : hasW (k3 : Int) m3.ws = false := by
                    cases e : hasW (k3 : Int) m3.ws with
                    | false => rfl
                    | true => exact absurd hit (hfin.1 (hasN_W.1 e)).1
                  clear hit hc2 hfin hcz
                  have kW : ∀ d os, Calls Try.prog 16 #[.pointer (some ⟨g, 0, none⟩), .int .i64 (k3 : Int)] (grow (redrawn wr d) os) fun e w'' => e = .returned (.bool false) ∧ ∃ r : Regrown, w'' = grow (redrawn wr r.d) r.os := fun d os => by
                    have := waits_any (hm3.below (below_regrown wr d os)) (k3 : Int)
                    rw [hW] at this
                    exact Calls.regrown_of this
                  have hl : ∀ d os, (Instr.lookup 51 (.map (some bm)) (.int .i64 (k3 : Int)) false).run Try.prog (grow (redrawn wr d) os) = .ok (.int .i64 cv) (grow (redrawn wr d) os) := fun d os => mi_look (hmi3.below (below_regrown wr d os)) HAT.out hwf
                  clear hW
                  go_wp2
                  refine wp_region_quiet_below (by kernel_rfl) (by kernel_rfl) ?_
                  repeat (go_big_quiet_step (first | (go_at_call 16; with_reducible exact kW _ _)))
                  refine wpQuiet_nil ?_
                  intro w9 hw9
                  have g9 : Below wr.heap.size wr w9 := by obtain ⟨p9, rfl⟩ := hw9; exact below_regrown _ _ _
                  clear hw9 kW hl
                  go_wp2
                  go_roundg (P + 1 - (k3 + 1))
                  case measure => omega
                  case rel => exact ⟨k3 + 1, by omega, by omega, rfl, by go_num, hm3.below g9, hmi3.below g9, bstep gg3 g9⟩
              · have hd3 : decide (k3 ≤ P) = false := decide_eq_false hlt3
                go_wp2_with (go_at_call 10; (with_reducible refine (awake10_any wr).mono ?_); rintro e w5 ⟨rfl, g5⟩)
                go_ret
                exact ⟨rfl, bstep gg3 g5⟩
end Go.Proofs.Ytjekkjmjiljaeaa
