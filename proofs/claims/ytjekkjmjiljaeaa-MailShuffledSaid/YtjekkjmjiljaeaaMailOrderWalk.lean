/-
  The walk of the statement MailOrder: for any frames and any tries lost it returns true, and nothing that was there has changed.
-/
import Derived.Test.YtjekkjmjiljaeaaM10c
import Derived.Test.YtjekkjmjiljaeaaMailGoneWalk
namespace Go.Proofs.Ytjekkjmjiljaeaa
open Go.RowKit Go.Sort Go.Maps
set_option linter.unusedVariables false

theorem rg5r {w : World} {b o : Nat} {p : Ff} (h : w.rangeAt b o (enF p)) :
    (∀ d os, (grow (redrawn w d) os).cell? ⟨b, o, none⟩ = some (.int .u32 (p.1.id : Int))) ∧ (∀ d os, (grow (redrawn w d) os).cell? ⟨b, o + 1, none⟩ = some (.bool p.1.ext)) ∧ (∀ d os, (grow (redrawn w d) os).cell? ⟨b, o + 2, none⟩ = some (.bool p.1.rem)) ∧
    (∀ d os, (grow (redrawn w d) os).cell? ⟨b, o + 3, none⟩ = some (.int .u8 (p.1.dlc : Int))) ∧ (∀ d os, (grow (redrawn w d) os).cell? ⟨b, o + 4, none⟩ = some (.slice p.2.1 p.1.data.length p.2.2)) := by
  have k0 := h 0 _ rfl
  rw [Nat.add_zero] at k0
  exact ⟨fun d os => cell_regrown k0 d os, fun d os => cell_regrown (h 1 _ rfl) d os, fun d os => cell_regrown (h 2 _ rfl) d os, fun d os => cell_regrown (h 3 _ rfl) d os, fun d os => cell_regrown (h 4 _ rfl) d os⟩

/-- The one on the wire is sent. -/
theorem sent_on {B : Nat} {w : World} {g : Nat} {m : Ml} {a : Option Addr} {c n : Nat} {S : Nat → Prop} (h : MlO B w g { m with wire := n } a c S) (hI : MlI { m with wire := n }) (hw : m.wire = 0) (hab : m.ab = false) (hn : 1 ≤ n) :
    Calls Try.prog 25 #[.pointer (some ⟨g, 0, none⟩)] w fun e w' => e = .returned (.tuple #[.int .i64 (n : Int), .bool true]) ∧ Mle B w g (rmM n m) a c S w' := by
  have := sent_any h hI
  rw [seM_on hw hab (show n ≠ 0 by omega), show decide (({ m with wire := n } : Ml).wire ≠ 0) = true by rw [decide_eq_true_eq]; show n ≠ 0; omega] at this
  exact this

theorem mailOrder_new (w : World) : Calls Try.prog 9 #[.int .i64 60] w fun e w' => ∃ g, e = .returned (.tuple #[.pointer (some ⟨g, 0, none⟩), .int .i64 0]) ∧ MlO w.heap.size w' g (neM 60) none 0 (fun b => b = g) ∧ w.heap.size ≤ g ∧ Below w.heap.size w w' := mlNew_any w 60 (by omega) (by omega)

set_option maxRecDepth 100000 in
set_option maxHeartbeats 16000000 in
theorem mailOrder_walk (w : World) (a0 : Option Addr) (n0 c0 : Nat) (fs : List Ff) (a1 : Option Addr) (n1 c1 : Nat) (xs : List Bool)
    (hf : FrR w a0 n0 c0 fs) (hx : RL .bool w a1 n1 c1 xs) (hd : ∀ p ∈ fs, p.1.data.length ≤ 9223372036854775807) (m0 : n0 ≤ 9223372036854775807) (m1 : n1 ≤ 140737488351232) :
    Calls Try.prog 5 #[.slice a0 n0 c0, .slice a1 n1 c1] w fun e w' => e = .returned (.bool true) ∧ Below w.heap.size w w' := by
  obtain ⟨L, hmin, hL1, hL2⟩ : ∃ L : Nat, (∀ ts t w', (Builtin.min_ ts t #[.int .i64 (n0 : Int), .int .i64 60]).run Try.prog w' = .ok (.int .i64 (L : Int)) w') ∧ L ≤ n0 ∧ L ≤ 60 := by
    refine ⟨min n0 60, fun ts t w' => ?_, by omega, by omega⟩
    rw [run_min_int2]; congr 2; split <;> omega
  have hmm := @run_makeMap Try.prog
  have HF := hid hf; clear hf
  have HX := hid hx; clear hx hd
  go_enter Try.func5, Try.ntmps5
  go_wp2_with (first
    | (go_at_call 9; (with_reducible refine (mailOrder_new _).mono ?_); rintro e w1 ⟨g, rfl, h1, l1, g1⟩)
    | (with_reducible refine wpList_cutToK0 elF rfl _ _ rfl _ _ L rfl rfl rfl HF.out.row hL1 ?_; intro a5 hr5))
  go_loopg [7, 36] L (fun gn v7 vi wr => ∃ (k : Nat) (m : Ml) (a : Option Addr) (c : Nat) (S : Nat → Prop) (ai : Option Addr) (ci : Nat) (ins : List Ff), k ≤ L ∧ gn = L - k ∧ vi = .int .i64 (k : Int) ∧ v7 = .slice ai m.puts ci ∧ MlO w.heap.size wr g m a c S ∧ PutsM m 60 ∧ InsM m ins ∧ OK enF 5 34 w.heap.size wr ai m.puts ci ins ∧ (∀ q, ai = some q → ¬ S q.block) ∧ m.puts ≤ k ∧ Hid (∀ q ∈ ins, q.1.id < 4294967296) ∧ Below w.heap.size w wr)
  case atStart => exact ⟨0, neM 60, none, 0, _, none, 0, [], by omega, by omega, rfl, rfl, h1, PutsM.new 60, ⟨rfl, fun p hp => (by cases hp)⟩, OK.nil _ _ _ _ _, fun q hq => (by cases hq), Nat.le_refl _, fun q hq => (by cases hq), g1⟩
  case round =>
    obtain ⟨k, m, a, c, S, ai, ci, ins, hk, rfl, rfl, rfl, hm, hP, hI, hO, hai, hpk, HID, gg⟩ := hrel
    clear h1 g1
    by_cases hlt : k < L
    · obtain ⟨p, hp⟩ : ∃ p, (fs.take L)[k]? = some p := ⟨_, List.getElem?_eq_getElem (by rw [hr5.len]; exact hlt)⟩
      have hpm : p ∈ fs := List.mem_of_mem_take (List.mem_of_getElem? hp)
      obtain ⟨gb, off, rfl, hgb, hrg⟩ := (hr5.below gg).range hp
      have hdat := HF.out.dat p hpm
      have hid' := HF.out.id p hpm
      have hdl' := HF.out.dl p hpm
      have b2 := heap_alloc_new wr (.cells frZr 34)
      have k2 : Below wr.heap.size wr ((wr.alloc (.cells frZr 34)).setRow wr.heap.size (frV p.1 p.2.1 p.2.2)) := below_setRow (bnew0 wr _) (Nat.le_refl _) _
      have b3 : ((wr.alloc (.cells frZr 34)).setRow wr.heap.size (frV p.1 p.2.1 p.2.2)).heap[wr.heap.size]? = some (.cells (frV p.1 p.2.1 p.2.2) 34 (0, 0)) := setRow_heap _ _ _ _ _ _ b2
      have hRi := fun w' => frRight_any w' p.1.id p.1.ext p.1.rem p.1.dlc p.2.1 p.1.data.length p.2.2 hid' hdl'
      have hP2 := hid hP
      have hI2 := hid hI
      have hle := hP.le
      have hrm := hP.rm
      clear hP hp hI
      cases hri : riF p.1.id p.1.ext p.1.rem p.1.dlc p.1.data.length
      · rw [hri] at hRi
        clear hri
        go_wp2_with (first
          | (with_reducible refine wpList_loadM rowF rfl _ rfl _ _ rfl (frV p.1 p.2.1 p.2.2) hrg rfl ?_)
          | (with_reducible refine wpList_storeR rowF rfl _ _ rfl _ _ rfl rfl b2 rfl rfl (fr_ones _ _ _) ?_)
          | (with_reducible refine wpList_loadR rowF rfl _ rfl _ rfl b3 rfl ?_)
          | (go_at_call 18; (with_reducible refine (hRi _).mono ?_); rintro e w3 ⟨rfl, g3⟩))
        have k3 := bstep k2 g3
        go_roundg (L - (k + 1))
        case measure => omega
        case rel => exact ⟨k + 1, m, a, c, S, ai, ci, ins, by omega, rfl, by go_num, rfl, hm.below k3, hP2.out, hI2.out, hO.below k3, hai, by omega, HID, bstep gg k3⟩
      · rw [hri] at hRi
        have hlen := ri_len hri
        go_wp2_with (first
          | (with_reducible refine wpList_loadM rowF rfl _ rfl _ _ rfl (frV p.1 p.2.1 p.2.2) hrg rfl ?_)
          | (with_reducible refine wpList_storeR rowF rfl _ _ rfl _ _ rfl rfl b2 rfl rfl (fr_ones _ _ _) ?_)
          | (with_reducible refine wpList_loadR rowF rfl _ rfl _ rfl b3 rfl ?_)
          | (go_at_call 18; (with_reducible refine (hRi _).mono ?_); rintro e w3 ⟨rfl, g3⟩
             have k3 := bstep k2 g3
             have b33 := bx_below b3 g3
             have hm3 := hm.below k3
             have gg3 := bstep gg k3
             have hO3 := hO.below k3
             have hput := mlPut_any hm3 p.1 p.2.1 p.2.2 hid' hdl' hri (by omega) (by omega) (fun w' kk => hdat.below (kk.below gg3 (Nat.le_refl _) hm3.sB)) hlen)
          | (with_reducible refine wpList_loadR rowF rfl _ rfl _ rfl b33 rfl ?_)
          | (go_at_call 22; (with_reducible refine hput.mono ?_); rintro e w4 ⟨a4, c4, S4, da, dc, rfl, h4, r4, s4⟩
             have gg4 := r4.below gg3 (Nat.le_refl _) hm3.sB
             have hO4 := hO3.ch r4 hai
             have z3 : wr.heap.size + 1 ≤ w3.heap.size := by have := bx_lt b33; omega
             have hns : ¬ S wr.heap.size := fun e => by have := hm.sL _ e; omega
             have b44 := r4.bx b33 hns
             have z4 := r4.size
             have hai4 : ∀ q, ai = some q → ¬ S4 q.block := fun q hq e => by
               rcases s4 _ e with e | e
               · exact hai q hq e
               · have := (hO3.ltB hq).1; omega
             have hown := hO4.alloc (.cells (frV p.1 p.2.1 p.2.2) 34)
             have hsrc := (ok_lit enF_k 34 0 w4 [(p.1, (p.2.1, p.2.2))] (frV p.1 p.2.1 p.2.2) 1 rfl rfl (by omega) (Nat.zero_le _)).rk enF_k
             have hba : w.heap.size ≤ (w4.alloc (.cells (frV p.1 p.2.1 p.2.2) 34)).heap.size := by have := gg4.size; rw [heap_size_alloc]; omega)
          | (with_reducible refine wpList_loadR rowF rfl _ rfl _ rfl b44 rfl ?_)
          | (at_builtin; refine wpList_appgK elF enF_k rfl _ _ rfl rfl hown rfl hsrc (by omega) (by omega) (by omega) hba ?_; intro w6 a6 c6 o6 g6 k6 z6))
        have kA : Ch (fun b => ∃ q, ai = some q ∧ q.block = b) (w4.alloc (.cells (frV p.1 p.2.1 p.2.2) 34)) w6 := ⟨g6.os, g6.tape, g6.output, z6, fun b hb hn => (k6 b hb (fun q hq e => hn ⟨q, hq, e⟩)).1⟩
        have h6 := (h4.alloc (.cells (frV p.1 p.2.1 p.2.2) 34)).ch kA (fun b hb ⟨q, e1, e2⟩ => hai4 q e1 (by rw [e2]; exact hb))
        have hai6 : ∀ q, a6 = some q → ¬ S4 q.block := fun q hq e => by
          have hb := h4.sL _ e
          exact (k6 q.block (by rw [heap_size_alloc]; omega) (fun q0 hq0 e0 => hai4 q0 hq0 (by rw [e0]; exact e))).2 q hq rfl
        have gg6 := (bnew gg4 (.cells (frV p.1 p.2.1 p.2.2) 34)).trans g6
        go_roundg (L - (k + 1))
        case measure => omega
        case rel => exact ⟨k + 1, puM p.1 da dc m, a4, c4, S4, a6, c6, _, by omega, rfl, by go_num, rfl, h6, hP2.out.put _ _ _, hI2.out.put hP2.out.i _ _ _ _ _, o6, hai6, by show m.puts + 1 ≤ k + 1; omega, fun q hq => (List.mem_append.1 hq).elim (HID.out q) (fun h => by simp at h; subst h; exact hid'), gg6⟩
    · obtain rfl : k = L := by omega
      have gg2 := gg
      have hS0 := OrdS.start hP hI
      have hle0 := hP.le
      have hpl : m.puts ≤ 60 := by omega
      obtain ⟨P, hPE⟩ : ∃ P, P = m.puts := ⟨_, rfl⟩
      rw [← hPE] at hS0 hO hpl hle0 ⊢
      have hbm : ¬ S wr.heap.size := fun e => by have := hm.sL _ e; omega
      have hmp0 := World.ownsMap_made (H := Unit) wr Try.prog 3 (plainElem Try.prog 3)
      have h3 := hm.alloc (.map #[] 0)
      have hO3 := hO.alloc (.map #[] 0)
      have gg3 := bnew gg (.map #[] 0)
      have hzb : w.heap.size ≤ wr.heap.size := gg.size
      have HBA : Hid (∀ q, ai = some q → ¬ q.block = wr.heap.size) := fun q hq e => by have := (hO.ltB hq).1; omega
      obtain ⟨bm, hbmE⟩ : ∃ bm, bm = wr.heap.size := ⟨_, rfl⟩
      rw [← hbmE] at hbm hmp0 hzb HBA
      obtain ⟨w3, hw3⟩ : ∃ w3, w3 = wr.alloc (.map #[] 0) := ⟨_, rfl⟩
      rw [← hw3] at hmp0 h3 gg3 hO3
      have HBM := hid hbmE
      have HW3 := hid hw3
      have HHAI := hid hai
      clear hP hI hpk gg hr5 hL1 HF gg2 hO hm hai hbmE hw3 hPE
      go_wp2
      rw [← HBM.out, ← HW3.out]
      clear HBM HW3
      have hai := HHAI.out
      go_loopg [12, 14] (P + n1) (fun gn v12 v14 wr => ∃ (m2 : Ml) (D : DataW Unit) (nD : Nat) (ts : List Int) (last i : Nat), gn = m2.ws.length + (n1 - i) ∧ v12 = .int .i64 (last : Int) ∧ v14 = .int .i64 (i : Int) ∧ MlO w.heap.size wr g m2 a c S ∧ OrdS m2 P ins ts last ∧ MI wr bm nD D ∧ Met D ts ∧ nD ≤ ts.length ∧ i + m2.ws.length ≤ n1 + 60 ∧ OK enF 5 34 w.heap.size wr ai P ci ins ∧ Below w.heap.size w wr)
      case atStart => exact ⟨m, _, 0, [], 0, 0, by omega, rfl, rfl, h3, hS0, hmp0, Met.new, Nat.le_refl _, by omega, hO3, gg3⟩
      case round =>
        clear h3 hmp0 hS0 gg3 hO3 hle0
        obtain ⟨m2, D, nD, ts, last, i, rfl, rfl, rfl, hm, hS, hmi, hM, hnD, hi60, hO, gg⟩ := hrel
        have hlen := mlen_any hm
        by_cases h0 : m2.ws.length = 0
        · rw [h0] at hlen
          have hsz : Maps.size D = P := by rw [hM.size]; have := hS.le; omega
          have hml := fun ty => World.ownsMap.len hmi Try.underlying51 ty
          rw [hsz] at hml
          clear hsz h0 hS hM
          go_wp2_with (first
            | (go_at_call 15; (with_reducible refine hlen.mono ?_); rintro e w4 ⟨rfl, rfl⟩)
            | (go_at_call 10; (with_reducible refine (awake10_any wr).mono ?_); rintro e w5 ⟨rfl, g5⟩))
          go_ret
          exact ⟨rfl, bstep gg g5⟩
        · obtain ⟨p, hp⟩ := beM_some hS.i (fun e => h0 (by rw [e]; rfl))
          have hmem := beM_num hp
          have hn1 := (hS.i.no p hmem).1
          have hn2 := (hS.i.no p hmem).2
          have hsp := hS.pu
          rw [hsp] at hn2
          have hle := hS.le
          have hnt : (p.2 : Int) ∉ ts := (hS.has p.2 hn1 hn2).1 ⟨p, hmem, rfl⟩
          have hwf := wf64 (p.2 : Int) (by omega) (by omega)
          have hst := start_any hm p hp
          have hpos : decide (0 < m2.ws.length) = true := by rw [decide_eq_true_eq]; omega
          have HAT := hid (hM.no hnt)
          have HNT := hid hnt
          have HS := hid hS
          have HM := hid hM
          have HBE := hid hp
          have HMEM := hid hmem
          have HLA := hid hS.la
          have HFR := hid (hS.fr p hmem)
          have HWA : Hid (hasW (p.2 : Int) (rmM p.2 m2).ws = false) := by
            show hasW (p.2 : Int) (rmW p.2 m2.ws) = false
            cases e : hasW (p.2 : Int) (rmW p.2 m2.ws) with
            | false => rfl
            | true => exact absurd rfl ((hasN_rm hS.i.up).1 (hasN_W.1 e)).2
          have hrl := rm_len (n := p.2) ⟨p, hmem, rfl⟩
          have hmx : nD < maxLen := Nat.lt_of_le_of_lt (by omega : nD ≤ 60) (by decide)
          have hwon := hS.i.on hmem
          have hswi := hS.wi
          have hsab := hS.ab
          have hd2 : decide (p.2 < 1) = false := by rw [decide_eq_false_iff_not]; omega
          have hd3 : decide (P < p.2) = false := by rw [decide_eq_false_iff_not]; omega
          clear hnt hM hp hmem h0
          by_cases hil : i < n1
          · obtain ⟨bk, off, rfl, hbk, hcc⟩ := HX.out.cell (by omega)
            obtain ⟨x, hx⟩ : ∃ x, xs[i]? = some x := ⟨_, List.getElem?_eq_getElem (by rw [HX.out.len]; exact hil)⟩
            have hcx := hcc i x hx
            have hil2 : decide (i < n1) = true := decide_eq_true hil
            clear hx hcc
            cases x
            · clear hS
              rcases HLA.out with hla | ⟨hla1, hla2, q1, hq1, hle1⟩
              · subst hla
                go_wp2_with (first
                  | (go_at_call 15; (with_reducible refine hlen.mono ?_); rintro e w4 ⟨rfl, rfl⟩)
                  | (go_at_call 23; (with_reducible refine hst.mono ?_); rintro e w4 ⟨rfl, h4, r4⟩
                     have gg4 := r4.below gg (Nat.le_refl _) hm.sB
                     have hmi4 := hmi.ch r4 hbm
                     have hO4 := hO.ch r4 hai
                     have hl4 := mi_look hmi4 HAT.out hwf
                     have hcx4 := (gg4.cell (p := ⟨bk, off + i, none⟩) hbk).trans hcx
                     have hse : Calls Try.prog 25 #[.pointer (some ⟨g, 0, none⟩)] w4 fun e w' => e = .returned (.tuple #[.int .i64 (p.2 : Int), .bool true]) ∧ Mle w.heap.size w4 g (rmM p.2 m2) a c S w' := sent_on h4 hwon hswi hsab hn1)
                  | (go_at_call 25; (with_reducible refine hse.mono ?_); rintro e w5 ⟨rfl, h5, r5⟩
                     have gg5 := r5.below gg4 (Nat.le_refl _) h4.sB
                     have hmi5 := hmi4.ch r5 hbm
                     have hO5 := hO4.ch r5 hai
                     have hwa := waits_any h5 (p.2 : Int)
                     rw [HWA.out] at hwa)
                  | (go_at_call 16; (with_reducible refine hwa.mono ?_); rintro e w6 ⟨rfl, g6⟩
                     have gg6 := bstep gg5 g6
                     have h6 := h5.below g6
                     have hmi6 := hmi5.below g6
                     have hO6 := hO5.below g6)
                  | (at_mapUpdate; refine wpList_mapUpdate_own _ rfl _ _ _ 51 rfl 3 3 lawI Try.underlying51 _ bm nD D rfl hmi6 hmx _ (.int .i64 1) (.int .i64 (p.2 : Int)) rfl rfl (keyOf_int_mk Try.underlying3 hwf) (.lit (.int .i64 1)) [] (plainElem_int Try.underlying3 (wf64 _ (by omega) (by omega))) ?_; intro w8 hmi8 hgr8))
                have k8 : Ch (fun b => b = bm) w6 w8 := ⟨hgr8.os, hgr8.tape, hgr8.output, hgr8.size, fun b hb hn => hgr8.block b hb (fun e => hn (by simpa using e))⟩
                have gg8 := gg6.grown hgr8 gg6.size (fun q hq => by cases hq; exact hzb)
                go_roundg (m2.ws.length - 1 + (n1 - (i + 1)))
                case measure => omega
                case rel => exact ⟨rmM p.2 m2, _, nD + 1, ts ++ [(p.2 : Int)], p.2, i + 1, by show _ = (rmW p.2 m2.ws).length + _; omega, rfl, by go_num, h6.ch k8 (fun b hb e => hbm (by rw [← e]; exact hb)), HS.out.sent HBE.out, hmi8, HM.out.put HNT.out _, by simp; omega, by show i + 1 + (rmW p.2 m2.ws).length ≤ _; omega, hO6.ch k8 (fun q hq e => HBA.out q hq e), gg8⟩
              · obtain ⟨la, hla⟩ : ∃ la : Nat, last = la + 1 := ⟨last - 1, by omega⟩
                have hd0 : decide (0 < last) = true := by rw [decide_eq_true_eq]; omega
                obtain ⟨pn, hpn⟩ : ∃ pn : Nat, p.2 = pn + 1 := ⟨p.2 - 1, by omega⟩
                have e1 : (last : Int) - 1 = (la : Int) := by omega
                have e2 : (p.2 : Int) - 1 = (pn : Int) := by omega
                have i1 : la < P := by omega
                have i2 : pn < P := by omega
                obtain ⟨q2, hq2, hq2e⟩ := HFR.out
                have hky : kF q2 = kyW p := by unfold kF kyW; rw [hq2e]
                have hpe := hle1 p HMEM.out
                rw [← hky] at hpe
                rw [show last - 1 = la by omega] at hq1
                rw [show p.2 - 1 = pn by omega] at hq2
                have hi1 := HID.out q1 (List.mem_of_getElem? hq1)
                have hi2 := HID.out q2 (List.mem_of_getElem? hq2)
                have HQ1 := hid hq1
                have HQ2 := hid hq2
                have HE1 := hid e1
                have HE2 := hid e2
                have HPN := hid hpn
                have HLL := hid hla
                have HPE := hid hpe
                clear hq1 hq2 hle1 hq2e hky e1 e2 hpn hla hpe
                go_wp2_with (first
                  | (go_at_call 15; (with_reducible refine hlen.mono ?_); rintro e w4 ⟨rfl, rfl⟩)
                  | (go_at_call 23; (with_reducible refine hst.mono ?_); rintro e w4 ⟨rfl, h4, r4⟩
                     have gg4 := r4.below gg (Nat.le_refl _) hm.sB
                     have hmi4 := hmi.ch r4 hbm
                     have hO4 := hO.ch r4 hai
                     have hl4 := mi_look hmi4 HAT.out hwf
                     have hcx4 := (gg4.cell (p := ⟨bk, off + i, none⟩) hbk).trans hcx
                     have hse : Calls Try.prog 25 #[.pointer (some ⟨g, 0, none⟩)] w4 fun e w' => e = .returned (.tuple #[.int .i64 (p.2 : Int), .bool true]) ∧ Mle w.heap.size w4 g (rmM p.2 m2) a c S w' := sent_on h4 hwon hswi hsab hn1)
                  | (go_at_call 25; (with_reducible refine hse.mono ?_); rintro e w5 ⟨rfl, h5, r5⟩
                     have gg5 := r5.below gg4 (Nat.le_refl _) h4.sB
                     have hmi5 := hmi4.ch r5 hbm
                     have hO5 := hO4.ch r5 hai
                     have hwa := waits_any h5 (p.2 : Int)
                     rw [HWA.out] at hwa)
                  | (go_at_call 16; (with_reducible refine hwa.mono ?_); rintro e w6 ⟨rfl, g6⟩
                     have gg6 := bstep gg5 g6
                     have h6 := h5.below g6
                     have hmi6 := hmi5.below g6
                     have hO6 := hO5.below g6))
                obtain ⟨gi, hgi, hgiB, hgil⟩ := hO6.addr (by omega)
                have HGI := hid hgi
                clear hgi
                have hOg := hO6
                rw [HGI.out] at hOg
                have hr1 := hOg.range enF_k HQ1.out
                have hr2 := hOg.range enF_k HQ2.out
                obtain ⟨x0, x1, x2, x3, x4⟩ := rg5r hr1
                obtain ⟨y0, y1, y2, y3, y4⟩ := rg5r hr2
                have kA := fun d os => Calls.regrown_of (key_any (grow (redrawn w6 d) os) q1.1.id q1.1.ext q1.1.rem q1.1.dlc q1.2.1 q1.1.data.length q1.2.2 hi1)
                have kB := fun d os => Calls.regrown_of (key_any (grow (redrawn w6 d) os) q2.1.id q2.1.ext q2.1.rem q2.1.dlc q2.2.1 q2.1.data.length q2.2.2 hi2)
                have HKA : Hid (keyF q1.1.id q1.1.ext q1.1.rem = kF q1) := rfl
                have HKB : Hid (keyF q2.1.id q2.1.ext q2.1.rem = kF q2) := rfl
                rw [HKA.out] at kA
                rw [HKB.out] at kB
                have f1 := HE1.out
                have f2 := HE2.out
                have f3 : (la : Int) < (P : Int) := by omega
                have f4 : (pn : Int) < (P : Int) := by omega
                rw [HGI.out]
                refine wp_region_quiet_below (by kernel_rfl) (by kernel_rfl) ?_
                repeat (go_big_quiet_step (first | (go_at_call 19; with_reducible exact kA _ _) | (go_at_call 19; with_reducible exact kB _ _)))
                refine wpQuiet_nil ?_
                intro w9 hw9
                have g9 : Below w6.heap.size w6 w9 := by obtain ⟨p9, rfl⟩ := hw9; exact below_regrown _ _ _
                clear hw9 kA kB x0 x1 x2 x3 x4 y0 y1 y2 y3 y4 f1 f2 f3 f4
                rw [← HGI.out]
                have gg9 := bstep gg6 g9
                have h9 := h6.below g9
                have hmi9 := hmi6.below g9
                have hO9 := hO6.below g9
                have hpe := HPE.out
                generalize kF q1 = v1 at *
                generalize kF q2 = v2 at *
                rcases hpe with hpe | ⟨hpe, hpl2⟩
                · have dd1 : decide (v2 < v1) = false := by rw [decide_eq_false_iff_not]; omega
                  have dd2 : ((v1 : Int) == (v2 : Int)) = false := by rw [beq_eq_false_iff_ne]; omega
                  go_wp2_with (first
                    | (at_mapUpdate; refine wpList_mapUpdate_own _ rfl _ _ _ 51 rfl 3 3 lawI Try.underlying51 _ bm nD D rfl hmi9 hmx _ (.int .i64 1) (.int .i64 (p.2 : Int)) rfl rfl (keyOf_int_mk Try.underlying3 hwf) (.lit (.int .i64 1)) [] (plainElem_int Try.underlying3 (wf64 _ (by omega) (by omega))) ?_; intro w8 hmi8 hgr8))
                  have k8 : Ch (fun b => b = bm) w9 w8 := ⟨hgr8.os, hgr8.tape, hgr8.output, hgr8.size, fun b hb hn => hgr8.block b hb (fun e => hn (by simpa using e))⟩
                  have gg8 := gg9.grown hgr8 gg9.size (fun q hq => by cases hq; exact hzb)
                  go_roundg (m2.ws.length - 1 + (n1 - (i + 1)))
                  case measure => omega
                  case rel => exact ⟨rmM p.2 m2, _, nD + 1, ts ++ [(p.2 : Int)], p.2, i + 1, by show _ = (rmW p.2 m2.ws).length + _; omega, rfl, by go_num, h9.ch k8 (fun b hb e => hbm (by rw [← e]; exact hb)), HS.out.sent HBE.out, hmi8, HM.out.put HNT.out _, by simp; omega, by show i + 1 + (rmW p.2 m2.ws).length ≤ _; omega, hO9.ch k8 (fun q hq e => HBA.out q hq e), gg8⟩
                · subst hpe
                  have dd1 : decide (v1 < v1) = false := by simp
                  have dd3 : decide (p.2 < last) = false := by rw [decide_eq_false_iff_not]; omega
                  go_wp2_with (first
                    | (at_mapUpdate; refine wpList_mapUpdate_own _ rfl _ _ _ 51 rfl 3 3 lawI Try.underlying51 _ bm nD D rfl hmi9 hmx _ (.int .i64 1) (.int .i64 (p.2 : Int)) rfl rfl (keyOf_int_mk Try.underlying3 hwf) (.lit (.int .i64 1)) [] (plainElem_int Try.underlying3 (wf64 _ (by omega) (by omega))) ?_; intro w8 hmi8 hgr8))
                  have k8 : Ch (fun b => b = bm) w9 w8 := ⟨hgr8.os, hgr8.tape, hgr8.output, hgr8.size, fun b hb hn => hgr8.block b hb (fun e => hn (by simpa using e))⟩
                  have gg8 := gg9.grown hgr8 gg9.size (fun q hq => by cases hq; exact hzb)
                  go_roundg (m2.ws.length - 1 + (n1 - (i + 1)))
                  case measure => omega
                  case rel => exact ⟨rmM p.2 m2, _, nD + 1, ts ++ [(p.2 : Int)], p.2, i + 1, by show _ = (rmW p.2 m2.ws).length + _; omega, rfl, by go_num, h9.ch k8 (fun b hb e => hbm (by rw [← e]; exact hb)), HS.out.sent HBE.out, hmi8, HM.out.put HNT.out _, by simp; omega, by show i + 1 + (rmW p.2 m2.ws).length ≤ _; omega, hO9.ch k8 (fun q hq e => HBA.out q hq e), gg8⟩
            · clear hS
              go_wp2_with (first
                | (go_at_call 15; (with_reducible refine hlen.mono ?_); rintro e w4 ⟨rfl, rfl⟩)
                | (go_at_call 23; (with_reducible refine hst.mono ?_); rintro e w4 ⟨rfl, h4, r4⟩
                   have gg4 := r4.below gg (Nat.le_refl _) hm.sB
                   have hmi4 := hmi.ch r4 hbm
                   have hO4 := hO.ch r4 hai
                   have hl4 := mi_look hmi4 HAT.out hwf
                   have hcx4 := (gg4.cell (p := ⟨bk, off + i, none⟩) hbk).trans hcx
                   have hlo := lost_any h4 hwon
                   rw [loM_on hswi hsab] at hlo)
                | (go_at_call 24; (with_reducible refine hlo.mono ?_); rintro e w5 ⟨rfl, h5, r5⟩
                   have gg5 := r5.below gg4 (Nat.le_refl _) h4.sB
                   have hmi5 := hmi4.ch r5 hbm
                   have hO5 := hO4.ch r5 hai
                   have hbe := best_any h5 p HBE.out)
                | (go_at_call 12; (with_reducible refine hbe.mono ?_); rintro e w6 ⟨da, dc, rfl, o6, g6⟩
                   have b6 := heap_alloc_new w6 (.cells frZr 34)
                   have k6 : Below w6.heap.size w6 ((w6.alloc (.cells frZr 34)).setRow w6.heap.size (frV p.1.1 da dc)) := below_setRow (bnew0 w6 _) (Nat.le_refl _) _
                   have g7 := bstep g6 k6)
                | (with_reducible refine wpList_storeR rowF rfl _ _ rfl _ _ rfl rfl b6 rfl rfl (fr_ones _ _ _) ?_))
              go_roundg (m2.ws.length + (n1 - (i + 1)))
              case measure => omega
              case rel => exact ⟨m2, D, nD, ts, last, i + 1, rfl, rfl, by go_num, h5.below g7, HS.out, hmi5.below g7, HM.out, hnD, by omega, hO5.below g7, bstep gg5 g7⟩
          · have hil2 : decide (i < n1) = false := decide_eq_false hil
            clear hS
            rcases HLA.out with hla | ⟨hla1, hla2, q1, hq1, hle1⟩
            · subst hla
              go_wp2_with (first
                | (go_at_call 15; (with_reducible refine hlen.mono ?_); rintro e w4 ⟨rfl, rfl⟩)
                | (go_at_call 23; (with_reducible refine hst.mono ?_); rintro e w4 ⟨rfl, h4, r4⟩
                   have gg4 := r4.below gg (Nat.le_refl _) hm.sB
                   have hmi4 := hmi.ch r4 hbm
                   have hO4 := hO.ch r4 hai
                   have hl4 := mi_look hmi4 HAT.out hwf
                   have hse : Calls Try.prog 25 #[.pointer (some ⟨g, 0, none⟩)] w4 fun e w' => e = .returned (.tuple #[.int .i64 (p.2 : Int), .bool true]) ∧ Mle w.heap.size w4 g (rmM p.2 m2) a c S w' := sent_on h4 hwon hswi hsab hn1)
                | (go_at_call 25; (with_reducible refine hse.mono ?_); rintro e w5 ⟨rfl, h5, r5⟩
                   have gg5 := r5.below gg4 (Nat.le_refl _) h4.sB
                   have hmi5 := hmi4.ch r5 hbm
                   have hO5 := hO4.ch r5 hai
                   have hwa := waits_any h5 (p.2 : Int)
                   rw [HWA.out] at hwa)
                | (go_at_call 16; (with_reducible refine hwa.mono ?_); rintro e w6 ⟨rfl, g6⟩
                   have gg6 := bstep gg5 g6
                   have h6 := h5.below g6
                   have hmi6 := hmi5.below g6
                   have hO6 := hO5.below g6)
                | (at_mapUpdate; refine wpList_mapUpdate_own _ rfl _ _ _ 51 rfl 3 3 lawI Try.underlying51 _ bm nD D rfl hmi6 hmx _ (.int .i64 1) (.int .i64 (p.2 : Int)) rfl rfl (keyOf_int_mk Try.underlying3 hwf) (.lit (.int .i64 1)) [] (plainElem_int Try.underlying3 (wf64 _ (by omega) (by omega))) ?_; intro w8 hmi8 hgr8))
              have k8 : Ch (fun b => b = bm) w6 w8 := ⟨hgr8.os, hgr8.tape, hgr8.output, hgr8.size, fun b hb hn => hgr8.block b hb (fun e => hn (by simpa using e))⟩
              have gg8 := gg6.grown hgr8 gg6.size (fun q hq => by cases hq; exact hzb)
              go_roundg (m2.ws.length - 1 + (n1 - (i + 1)))
              case measure => omega
              case rel => exact ⟨rmM p.2 m2, _, nD + 1, ts ++ [(p.2 : Int)], p.2, i + 1, by show _ = (rmW p.2 m2.ws).length + _; omega, rfl, by go_num, h6.ch k8 (fun b hb e => hbm (by rw [← e]; exact hb)), HS.out.sent HBE.out, hmi8, HM.out.put HNT.out _, by simp; omega, by show i + 1 + (rmW p.2 m2.ws).length ≤ _; omega, hO6.ch k8 (fun q hq e => HBA.out q hq e), gg8⟩
            · obtain ⟨la, hla⟩ : ∃ la : Nat, last = la + 1 := ⟨last - 1, by omega⟩
              have hd0 : decide (0 < last) = true := by rw [decide_eq_true_eq]; omega
              obtain ⟨pn, hpn⟩ : ∃ pn : Nat, p.2 = pn + 1 := ⟨p.2 - 1, by omega⟩
              have e1 : (last : Int) - 1 = (la : Int) := by omega
              have e2 : (p.2 : Int) - 1 = (pn : Int) := by omega
              have i1 : la < P := by omega
              have i2 : pn < P := by omega
              obtain ⟨q2, hq2, hq2e⟩ := HFR.out
              have hky : kF q2 = kyW p := by unfold kF kyW; rw [hq2e]
              have hpe := hle1 p HMEM.out
              rw [← hky] at hpe
              rw [show last - 1 = la by omega] at hq1
              rw [show p.2 - 1 = pn by omega] at hq2
              have hi1 := HID.out q1 (List.mem_of_getElem? hq1)
              have hi2 := HID.out q2 (List.mem_of_getElem? hq2)
              have HQ1 := hid hq1
              have HQ2 := hid hq2
              have HE1 := hid e1
              have HE2 := hid e2
              have HPN := hid hpn
              have HLL := hid hla
              have HPE := hid hpe
              clear hq1 hq2 hle1 hq2e hky e1 e2 hpn hla hpe
              go_wp2_with (first
                | (go_at_call 15; (with_reducible refine hlen.mono ?_); rintro e w4 ⟨rfl, rfl⟩)
                | (go_at_call 23; (with_reducible refine hst.mono ?_); rintro e w4 ⟨rfl, h4, r4⟩
                   have gg4 := r4.below gg (Nat.le_refl _) hm.sB
                   have hmi4 := hmi.ch r4 hbm
                   have hO4 := hO.ch r4 hai
                   have hl4 := mi_look hmi4 HAT.out hwf
                   have hse : Calls Try.prog 25 #[.pointer (some ⟨g, 0, none⟩)] w4 fun e w' => e = .returned (.tuple #[.int .i64 (p.2 : Int), .bool true]) ∧ Mle w.heap.size w4 g (rmM p.2 m2) a c S w' := sent_on h4 hwon hswi hsab hn1)
                | (go_at_call 25; (with_reducible refine hse.mono ?_); rintro e w5 ⟨rfl, h5, r5⟩
                   have gg5 := r5.below gg4 (Nat.le_refl _) h4.sB
                   have hmi5 := hmi4.ch r5 hbm
                   have hO5 := hO4.ch r5 hai
                   have hwa := waits_any h5 (p.2 : Int)
                   rw [HWA.out] at hwa)
                | (go_at_call 16; (with_reducible refine hwa.mono ?_); rintro e w6 ⟨rfl, g6⟩
                   have gg6 := bstep gg5 g6
                   have h6 := h5.below g6
                   have hmi6 := hmi5.below g6
                   have hO6 := hO5.below g6))
              obtain ⟨gi, hgi, hgiB, hgil⟩ := hO6.addr (by omega)
              have HGI := hid hgi
              clear hgi
              have hOg := hO6
              rw [HGI.out] at hOg
              have hr1 := hOg.range enF_k HQ1.out
              have hr2 := hOg.range enF_k HQ2.out
              obtain ⟨x0, x1, x2, x3, x4⟩ := rg5r hr1
              obtain ⟨y0, y1, y2, y3, y4⟩ := rg5r hr2
              have kA := fun d os => Calls.regrown_of (key_any (grow (redrawn w6 d) os) q1.1.id q1.1.ext q1.1.rem q1.1.dlc q1.2.1 q1.1.data.length q1.2.2 hi1)
              have kB := fun d os => Calls.regrown_of (key_any (grow (redrawn w6 d) os) q2.1.id q2.1.ext q2.1.rem q2.1.dlc q2.2.1 q2.1.data.length q2.2.2 hi2)
              have HKA : Hid (keyF q1.1.id q1.1.ext q1.1.rem = kF q1) := rfl
              have HKB : Hid (keyF q2.1.id q2.1.ext q2.1.rem = kF q2) := rfl
              rw [HKA.out] at kA
              rw [HKB.out] at kB
              have f1 := HE1.out
              have f2 := HE2.out
              have f3 : (la : Int) < (P : Int) := by omega
              have f4 : (pn : Int) < (P : Int) := by omega
              rw [HGI.out]
              refine wp_region_quiet_below (by kernel_rfl) (by kernel_rfl) ?_
              repeat (go_big_quiet_step (first | (go_at_call 19; with_reducible exact kA _ _) | (go_at_call 19; with_reducible exact kB _ _)))
              refine wpQuiet_nil ?_
              intro w9 hw9
              have g9 : Below w6.heap.size w6 w9 := by obtain ⟨p9, rfl⟩ := hw9; exact below_regrown _ _ _
              clear hw9 kA kB x0 x1 x2 x3 x4 y0 y1 y2 y3 y4 f1 f2 f3 f4
              rw [← HGI.out]
              have gg9 := bstep gg6 g9
              have h9 := h6.below g9
              have hmi9 := hmi6.below g9
              have hO9 := hO6.below g9
              have hpe := HPE.out
              generalize kF q1 = v1 at *
              generalize kF q2 = v2 at *
              rcases hpe with hpe | ⟨hpe, hpl2⟩
              · have dd1 : decide (v2 < v1) = false := by rw [decide_eq_false_iff_not]; omega
                have dd2 : ((v1 : Int) == (v2 : Int)) = false := by rw [beq_eq_false_iff_ne]; omega
                go_wp2_with (first
                  | (at_mapUpdate; refine wpList_mapUpdate_own _ rfl _ _ _ 51 rfl 3 3 lawI Try.underlying51 _ bm nD D rfl hmi9 hmx _ (.int .i64 1) (.int .i64 (p.2 : Int)) rfl rfl (keyOf_int_mk Try.underlying3 hwf) (.lit (.int .i64 1)) [] (plainElem_int Try.underlying3 (wf64 _ (by omega) (by omega))) ?_; intro w8 hmi8 hgr8))
                have k8 : Ch (fun b => b = bm) w9 w8 := ⟨hgr8.os, hgr8.tape, hgr8.output, hgr8.size, fun b hb hn => hgr8.block b hb (fun e => hn (by simpa using e))⟩
                have gg8 := gg9.grown hgr8 gg9.size (fun q hq => by cases hq; exact hzb)
                go_roundg (m2.ws.length - 1 + (n1 - (i + 1)))
                case measure => omega
                case rel => exact ⟨rmM p.2 m2, _, nD + 1, ts ++ [(p.2 : Int)], p.2, i + 1, by show _ = (rmW p.2 m2.ws).length + _; omega, rfl, by go_num, h9.ch k8 (fun b hb e => hbm (by rw [← e]; exact hb)), HS.out.sent HBE.out, hmi8, HM.out.put HNT.out _, by simp; omega, by show i + 1 + (rmW p.2 m2.ws).length ≤ _; omega, hO9.ch k8 (fun q hq e => HBA.out q hq e), gg8⟩
              · subst hpe
                have dd1 : decide (v1 < v1) = false := by simp
                have dd3 : decide (p.2 < last) = false := by rw [decide_eq_false_iff_not]; omega
                go_wp2_with (first
                  | (at_mapUpdate; refine wpList_mapUpdate_own _ rfl _ _ _ 51 rfl 3 3 lawI Try.underlying51 _ bm nD D rfl hmi9 hmx _ (.int .i64 1) (.int .i64 (p.2 : Int)) rfl rfl (keyOf_int_mk Try.underlying3 hwf) (.lit (.int .i64 1)) [] (plainElem_int Try.underlying3 (wf64 _ (by omega) (by omega))) ?_; intro w8 hmi8 hgr8))
                have k8 : Ch (fun b => b = bm) w9 w8 := ⟨hgr8.os, hgr8.tape, hgr8.output, hgr8.size, fun b hb hn => hgr8.block b hb (fun e => hn (by simpa using e))⟩
                have gg8 := gg9.grown hgr8 gg9.size (fun q hq => by cases hq; exact hzb)
                go_roundg (m2.ws.length - 1 + (n1 - (i + 1)))
                case measure => omega
                case rel => exact ⟨rmM p.2 m2, _, nD + 1, ts ++ [(p.2 : Int)], p.2, i + 1, by show _ = (rmW p.2 m2.ws).length + _; omega, rfl, by go_num, h9.ch k8 (fun b hb e => hbm (by rw [← e]; exact hb)), HS.out.sent HBE.out, hmi8, HM.out.put HNT.out _, by simp; omega, by show i + 1 + (rmW p.2 m2.ws).length ≤ _; omega, hO9.ch k8 (fun q hq e => HBA.out q hq e), gg8⟩
end Go.Proofs.Ytjekkjmjiljaeaa
