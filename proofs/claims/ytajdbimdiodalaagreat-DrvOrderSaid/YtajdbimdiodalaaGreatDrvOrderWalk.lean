/-
  The walk of the statement DrvOrder: for any number, frames and filters it returns true, and nothing that was there has changed.
-/
import Derived.Test.YtajdbimdiodalaaGreatZc9
namespace Go.Proofs.YtajdbimdiodalaaGreat
open Go.RowKit Go.Sort Go.Maps
set_option linter.unusedVariables false

/-- Drivers made so far, each with its frames and its filters. -/
def RdA (Ls : List (List Fr)) (ls : List Lt) (l : List De) : Prop := ∀ (j : Nat) (x : De), l[j]? = some x → ∃ L lt, Ls[j]? = some L ∧ ls[j]? = some lt ∧ ReD lt.2 L x.d
theorem RdA.snoc {Ls : List (List Fr)} {ls : List Lt} {l : List De} (h : RdA Ls ls l) (hls : ls.length = l.length) {L : List Fr} (hL : Ls[l.length]? = some L) {lt : Lt} {x : De} (r : ReD lt.2 L x.d) : RdA Ls (ls ++ [lt]) (l ++ [x]) := fun j y hy => by
  by_cases hj : j < l.length
  · rw [List.getElem?_append_left hj] at hy
    obtain ⟨L', lt', h1, h2, h3⟩ := h j y hy
    exact ⟨L', lt', h1, by rw [List.getElem?_append_left (by omega)]; exact h2, h3⟩
  · have hjl : j < (l ++ [x]).length := (List.getElem?_eq_some_iff.1 hy).1
    rw [List.length_append, List.length_singleton] at hjl
    obtain rfl : j = l.length := by omega
    rw [List.getElem?_append_right (Nat.le_refl _), Nat.sub_self] at hy
    cases hy
    exact ⟨L, lt, hL, by rw [List.getElem?_append_right (by omega), hls, Nat.sub_self]; rfl, r⟩

theorem set_same {α : Type} {l : List α} {i : Nat} {x : α} (h : l[i]? = some x) : l.set i x = l := by
  obtain ⟨h1, rfl⟩ := List.getElem?_eq_some_iff.1 h
  exact List.set_getElem_self h1
theorem rx_range {w : World} {xb : Nat} {p : Rx} {T : TypeId} (h : w.heap[xb]? = some (.cells (rxV p) T (0, 0))) : w.rangeAt xb 0 (frV p.1.1 p.1.2.1 p.1.2.2).toList := fun j v hv => by
  rw [cell_of_row _ _ _ _ _ _ h]
  match j, hv with
  | 0, hv => exact hv
  | 1, hv => exact hv
  | 2, hv => exact hv
  | 3, hv => exact hv
  | 4, hv => exact hv
  | j + 5, hv => simp at hv

set_option maxRecDepth 100000 in
set_option maxHeartbeats 16000000 in
theorem drvOrder_walk (w : World) (y0 : Nat) (a1 : Option Addr) (n1 c1 : Nat) (fs : List Ff) (a2 : Option Addr) (n2 c2 : Nat) (fl : List Fi)
    (h0 : y0 ≤ 255) (hf : FrR w a1 n1 c1 fs) (hfl : RK fiE 3 w a2 n2 c2 fl) (hok : ∀ x ∈ fl, x.Ok) (hd : ∀ p ∈ fs, p.1.data.length ≤ 9223372036854775807) (m1 : n1 ≤ 9223372036854775807) (m2 : n2 ≤ 9223372036854775807) :
    Calls Tryz.prog 4 #[.int .u8 (y0 : Int), .slice a1 n1 c1, .slice a2 n2 c2] w fun e w' => e = .returned (.bool true) ∧ Below w.heap.size w w' := by
  obtain ⟨r3, e3⟩ : ∃ r3 : Nat, (y0 : Int) % 3 = (r3 : Int) ∧ r3 < 3 := ⟨y0 % 3, by omega, by omega⟩
  obtain ⟨nd, e4⟩ : ∃ nd : Nat, (2 : Int) + (r3 : Int) = (nd : Int) ∧ nd = r3 + 2 := ⟨r3 + 2, by omega, rfl⟩
  have HB : Hid (2 ≤ nd ∧ nd ≤ 4) := hid (by omega)
  have e31 := e3.1
  have e41 := e4.1
  obtain ⟨L, hmin, hL1, hL2⟩ : ∃ L : Nat, (∀ ts t w', (Builtin.min_ ts t #[.int .i64 (n1 : Int), .int .i64 12]).run Tryz.prog w' = .ok (.int .i64 (L : Int)) w') ∧ L ≤ n1 ∧ L ≤ 12 := by
    refine ⟨min n1 12, fun ts t w' => ?_, by omega, by omega⟩
    rw [run_min_int2]; congr 2; split <;> omega
  have HF := hid hf
  have HFL := hid hfl
  have HOK := hid hok
  clear hf hd hfl hok e3 e4 h0
  go_enter Tryz.func4, Tryz.ntmps4
  go_wp2_with (first
    | (with_reducible refine wpList_cutToK0 elF14 rfl _ _ rfl _ _ L rfl rfl rfl HF.out.row hL1 ?_; intro a5 hr5
       have hO := others14_any w a5 L c1 (fs.take L) hr5 (fun p hp => HF.out.id p (List.mem_of_mem_take hp)) (fun p hp => HF.out.dl p (List.mem_of_mem_take hp)) (by omega) nd (by have := HB.out; omega) (by have := HB.out; omega))
    | (go_at_call 20; (with_reducible refine hO.mono ?_); rintro e w1 ⟨ob, qs, ks, rfl, oD, oI, g1⟩))
  have HLq : Hid (qs.length = nd) := hid oD.row.len
  have HOI := hid oI
  clear hr5 hO oI hmin e31 e41
  have bu0 : BuO w1.heap.size w1 [] := ⟨fun x hx => (by cases hx), List.Pairwise.nil⟩
  have R0 : RwW w1.heap.size w1 [] none 0 0 [] none 0 0 [] := ⟨OL.nil _ _ _ _, OL.nil _ _ _ _, fun q hq => (by cases hq), fun q hq => (by cases hq), fun p q hp => (by cases hp)⟩
  go_loopg [9, 10, 11, 48] nd (fun gn s9 s10 s11 s48 wr => ∃ (i all : Nat) (a9 : Option Addr) (c9 : Nat) (a10 : Option Addr) (c10 : Nat) (l : List De) (ls : List Lt), i ≤ nd ∧ gn = nd - i ∧ s48 = .int .i64 (i : Int) ∧ s9 = .slice a9 i c9 ∧ s10 = .slice a10 i c10 ∧ s11 = .int .i64 (all : Int) ∧ all ≤ 12 * i ∧ Hid (all = cnD (dsD l)) ∧ Hid (l.length = i) ∧ BuO w1.heap.size wr l ∧ RwW w1.heap.size wr l a9 i c9 (gsD l) a10 i c10 ls ∧ Hid (∀ q ∈ ls, LtO w1 q) ∧ Hid (RdA (frsL (lsQ qs)) ls l) ∧ Hid (∀ x ∈ l, DvG 0 x.d) ∧ Below w1.heap.size w1 wr)
  case atStart => exact ⟨0, 0, none, 0, none, 0, [], [], by omega, by omega, rfl, rfl, rfl, rfl, by omega, hid rfl, hid rfl, bu0, R0, hid (fun q hq => by cases hq), hid (fun j x hx => by simp at hx), hid (fun x hx => by cases hx), Below.refl _ _⟩
  case round =>
    obtain ⟨i, all, a9, c9, a10, c10, l, ls, hi, rfl, rfl, rfl, rfl, rfl, hal, HC, HLl, bu, R, HLt, HRd, HG, gg⟩ := hrel
    clear bu0 R0
    by_cases hlt : i < nd
    · have gw := bstep g1 gg
      obtain ⟨v, hv⟩ : ∃ v : Bool, v = (match fl[i]? with | some x => rightF x | none => false) := ⟨_, rfl⟩
      have HV := hid hv
      clear hv
      go_upto_region 10 with (fail)
      go_cut [61] (fun s61 wx => s61 = .bool v ∧ Below wr.heap.size wr wx)
      case first =>
        by_cases hi2 : i < n2
        · obtain ⟨x, hx⟩ : ∃ x, fl[i]? = some x := ⟨_, List.getElem?_eq_getElem (by rw [HFL.out.len]; exact hi2)⟩
          obtain ⟨gb, off, rfl, hgb, hrg⟩ := (HFL.out.below gw).range hx
          have hR := fun w' => fiRight_any x (HOK.out x (List.mem_of_getElem? hx)) w'
          have hvx : v = rightF x := by rw [HV.out, hx]
          rw [← hvx] at hR
          have hrg : wr.rangeAt gb (off + i * 3) (fiV x).toList := hrg
          clear hx hvx
          go_wp2_with (first
            | (with_reducible refine wpList_loadMW rowFi (by simp [Region.wanted, yielded, Act.put]) _ rfl gb (off + i * 3) rfl (fiV x) hrg rfl ?_)
            | (go_at_call 21; (with_reducible refine (hR _).mono ?_); rintro e w3 ⟨rfl, g3⟩))
          go_meet
          exact ⟨rfl, g3⟩
        · have hvx : v = false := by
            rw [HV.out, List.getElem?_eq_none (by rw [HFL.out.len]; omega)]
          subst hvx
          go_wp2_with fail
          go_meet
          exact ⟨rfl, Below.refl _ _⟩
      case rest =>
      obtain ⟨rfl, gx⟩ := hcut
      have buX := bu.below gx
      have RX := R.below gx
      have ggX := bstep gg gx
      clear bu R gg gw gx
      go_upto_if 61 with (fail)
      go_cut [13] (fun s13 wx => ∃ q : Lt, s13 = ltV q ∧ LtO w1 q ∧ wx = wc)
      case first =>
        cases v
        · go_wp2_with fail
          go_meet
          exact ⟨((none, 0), []), rfl, ⟨RK.nil _ _ _ _ _, fun x hx => (by cases hx), rfl, Nat.zero_le _⟩, rfl⟩
        · have hvx := HV.out
          have hi2 : i < n2 := by
            apply Classical.byContradiction
            intro hn
            rw [List.getElem?_eq_none (by rw [HFL.out.len]; omega)] at hvx
            cases hvx
          obtain ⟨x, hx⟩ : ∃ x, fl[i]? = some x := ⟨_, List.getElem?_eq_getElem (by rw [HFL.out.len]; exact hi2)⟩
          rw [hx] at hvx
          have HVX := hid hvx
          have HX := hid hx
          clear hvx hx
          go_wp2_with (with_reducible refine wpList_cutK elI rfl _ _ _ rfl .i64 .i64 _ _ i (i + 1) rfl rfl rfl rfl (by omega) (HFL.out.below g1) (by omega) (by omega) 1 (by omega) ?_; intro a3 c3 r3)
          have e1 : (fl.take (i + 1)).drop i = [x] := by
            rw [List.take_add_one, HX.out, List.drop_append_of_le_length (by rw [List.length_take, HFL.out.len]; omega), List.drop_of_length_le (by rw [List.length_take]; omega)]
            rfl
          rw [e1] at r3
          go_meet
          exact ⟨((a3, c3), [x]), rfl, ⟨r3, fun y hy => by rw [List.mem_singleton] at hy; subst hy; exact HOK.out y (List.mem_of_getElem? HX.out), by unfold wrF; rw [List.any_cons, List.any_nil, ← HVX.out]; rfl, Nat.le_refl _⟩, rfl⟩
      case rest =>
      obtain ⟨lt, rfl, LT, rfl⟩ := hcut
      clear HV
      have hN : Calls Tryz.prog 9 #[ltV lt, .int .i64 20, .int .i64 20] wc (NewD wc lt.2 20 20) := dvNew_any wc lt.1.1 lt.2.length lt.1.2 lt.2 (LT.below ggX).row LT.ok (Nat.le_trans LT.le (by omega)) LT.ri 20 20 (by omega) (by omega) (by omega) (by omega)
      go_upto_region 15 with (go_at_call 9; (with_reducible refine hN.mono ?_); rintro e w3 ⟨g, k0, S0, rfl, o3, b3⟩)
      have buM := buX.more b3 (x := ⟨g, newD (fun F => passF F.id F.ext lt.2) 20 20, k0, S0⟩) o3 ggX.size
      have RM := RX.more b3 (x := ⟨g, newD (fun F => passF F.id F.ext lt.2) 20 20, k0, S0⟩) o3.sB
      have gg3 := bstep ggX b3
      clear hN buX RX ggX o3 b3
      obtain ⟨b8, o8, q, e8, hq, hc⟩ := (oD.row.below gg3).at hlt
      cases e8
      rw [Nat.zero_add] at hc
      have hqr := oD.q q (List.mem_of_getElem? hq)
      have hqm := List.mem_of_getElem? hq
      obtain ⟨⟨qa, qc⟩, qL⟩ := q
      have hq12 : qL.length ≤ 12 := by
        have h1 : qL.length ∈ (lsQ qs).map List.length := List.mem_map.2 ⟨qL, List.mem_map.2 ⟨_, hqm, rfl⟩, rfl⟩
        have := mem_sum _ _ h1
        have := HOI.out.sum
        omega
      have hgood : ∀ p ∈ qL, Good p.1 ∧ p ∈ fs := fun p hp => ⟨HOI.out.good qL (List.mem_map.2 ⟨_, hqm, rfl⟩) p hp, List.mem_of_mem_take (HOI.out.sub qL (List.mem_map.2 ⟨_, hqm, rfl⟩) p hp)⟩
      have HQ := hid hq
      have HGO := hid hgood
      have hqr : RK enF 5 w1 qa qL.length qc qL := hqr
      have hcL : w3.cell? ⟨ob, i, none⟩ = some (.slice qa qL.length qc) := hc
      have HRE : Hid (ReD lt.2 ((qL.map Prod.fst).take 0) (newD (fun F => passF F.id F.ext lt.2) 20 20)) := hid (ReD.new _)
      have HG0 : Hid (DvG 0 (newD (fun F => passF F.id F.ext lt.2) 20 20)) := hid (newD_G _ _ _)
      generalize newD (fun F => passF F.id F.ext lt.2) 20 20 = d0 at *
      clear hq hqm hgood hc
      go_wp2_with fail
      go_loopg [11, 79] qL.length (fun gn s11 s79 wr => ∃ (k all2 : Nat) (d : Dv) (kk : Dm) (S : Nat → Prop), k ≤ qL.length ∧ gn = qL.length - k ∧ s79 = .int .i64 (k : Int) ∧ s11 = .int .i64 (all2 : Int) ∧ all2 ≤ 12 * i + k ∧ Hid (all2 = all + k) ∧ BuO w1.heap.size wr (l ++ [⟨g, d, kk, S⟩]) ∧ RwW w1.heap.size wr (l ++ [⟨g, d, kk, S⟩]) a9 i c9 (gsD l) a10 i c10 ls ∧ Hid (ReD lt.2 ((qL.map Prod.fst).take k) d) ∧ Hid (DvG 0 d) ∧ Below w1.heap.size w1 wr)
      case atStart => exact ⟨0, all, d0, k0, S0, by omega, by omega, rfl, rfl, by omega, hid rfl, buM, RM, HRE, HG0, gg3⟩
      case round =>
        obtain ⟨k, all2, d, kk, S, hk, rfl, rfl, rfl, hal2, HA2, bu, R, HRE, HG1, gg⟩ := hrel
        clear buM RM gg3 HG0 hcL
        by_cases hkl : k < qL.length
        · obtain ⟨p, hp⟩ : ∃ p, qL[k]? = some p := ⟨_, List.getElem?_eq_getElem hkl⟩
          have hpg := HGO.out p (List.mem_of_getElem? hp)
          obtain ⟨gb, off, rfl, hgb, hrg⟩ := (hqr.below gg).range hp
          have hdat := HF.out.dat p hpg.2
          have b2 := heap_alloc_new wr (.cells frZr 35)
          have k2 : Below wr.heap.size wr ((wr.alloc (.cells frZr 35)).setRow wr.heap.size (frV p.1 p.2.1 p.2.2)) := below_setRow (bnew0 wr _) (Nat.le_refl _) _
          have b3 : ((wr.alloc (.cells frZr 35)).setRow wr.heap.size (frV p.1 p.2.1 p.2.2)).heap[wr.heap.size]? = some (.cells (frV p.1 p.2.1 p.2.2) 35 (0, 0)) := setRow_heap _ _ _ _ _ _ b2
          have HP := hid hp
          have HPG := hid hpg.1
          clear hp hpg
          go_upto_region 18 with (first
            | (with_reducible refine wpList_loadM rowF rfl _ rfl _ _ rfl (frV p.1 p.2.1 p.2.2) hrg rfl ?_)
            | (with_reducible refine wpList_storeR rowF rfl _ _ rfl _ _ rfl rfl b2 rfl rfl (fr_ones _ _ _) ?_))
          have bu2 := bu.below k2
          have R2 := R.below k2
          have gg2 := bstep gg k2
          clear bu R gg b2 k2 hrg
          generalize (wr.alloc (.cells frZr 35)).setRow wr.heap.size (frV p.1 p.2.1 p.2.2) = V at *
          generalize wr.heap.size = fb at *
          have hdv := bu2.dv _ bu_last
          have hS := dvSend_any hdv HG1.out (by omega) p.1 p.2.1 p.2.2 HPG.out (by rw [HRE.out.len, HRE.out.room, List.length_take, List.length_map]; omega) (by rw [HRE.out.puts, List.length_take, List.length_map]; omega) (fun w' c => hdat.below (bstep g1 (hdv.belS c gg2 (Nat.le_refl _))))
          have hpu : ((d.q.puts : Int) + 1) = (k : Int) + 1 := by rw [HRE.out.puts, List.length_take, List.length_map]; omega
          rw [hpu] at hS
          have HRE2 : Hid (ReD lt.2 ((qL.map Prod.fst).take (k + 1)) (snD d p.1)) := hid (by
            have := HRE.out.send HPG.out (by rw [List.length_take, List.length_map]; omega)
            rw [List.take_add_one, List.getElem?_map, HP.out]
            exact this)
          have HG2 := hid (snD_G HG1.out HPG.out)
          generalize snD d p.1 = d2 at *
          clear hpu
          go_upto_region 19 with (first
            | (with_reducible refine wpList_loadR rowF rfl _ rfl _ rfl b3 rfl ?_)
            | (go_at_call 22; (with_reducible refine hS.mono ?_); rintro e w4 ⟨rfl, o4⟩))
          obtain ⟨k4, S4, bu4, ch4, s4, x4⟩ := bu2.setL o4
          have R4 := R2.ch bu2 ch4 s4
          have gg4 := bu2.bel ch4 gg2 (Nat.le_refl _) (Nat.le_refl _)
          clear hS hdv bu2 R2 gg2 o4 ch4 s4 x4 b3 HRE HG1
          have hnd4 := HB.out.2
          go_wp2
          go_roundg (qL.length - (k + 1))
          case measure => omega
          case rel => exact ⟨k + 1, all2 + 1, d2, k4, S4, by omega, rfl, by go_num, by go_num, by omega, hid (by rw [HA2.out]; omega), bu4, R4, HRE2, HG2, gg4⟩
        · obtain rfl : k = qL.length := by omega
          have hnd4 := HB.out.2
          have hba : ∀ o, w1.heap.size ≤ (wr.alloc o).heap.size := fun o => by rw [heap_size_alloc]; have := gg.size; omega
          have hown9 := R.r9.alloc (.cells #[pvD g] 24)
          have hsrc9 := (ol_lit pvD 24 0 wr [g] #[pvD g] 1 rfl rfl (by omega) (Nat.zero_le _)).rl
          go_wp2_with (first
            | (with_reducible refine wpList_appg elP rfl _ _ rfl rfl hown9 rfl hsrc9 (by omega) (fun _ => rfl) (by omega) (by omega) (hba _) ?_; intro wA a9' c9' o9 gA k9 z9
               have k9' : ∀ b, b < wr.heap.size → NB a9 b → wA.heap[b]? = wr.heap[b]? ∧ NB a9' b := fun b hb hn => ⟨(k9 b (by rw [heap_size_alloc]; omega) hn).1.trans (Below.heap_alloc _ _ _ hb), (k9 b (by rw [heap_size_alloc]; omega) hn).2⟩
               have z9' : wr.heap.size ≤ wA.heap.size := by rw [heap_size_alloc] at z9; omega
               have gA' : Below w1.heap.size wr wA := ((Below.refl _ wr).alloc gg.size _).trans gA
               have hbA : ∀ o, w1.heap.size ≤ (wA.alloc o).heap.size := fun o => by rw [heap_size_alloc]; have := gg.size; omega
               have hown10 := (R.r10A k9').alloc (.cells #[ltV lt] 22)
               have hsrc10 := (ol_lit ltV 22 0 wA [lt] #[ltV lt] 1 rfl rfl (by omega) (Nat.zero_le _)).rl
               clear hown9 hsrc9)
            | (with_reducible refine wpList_appg elH rfl _ _ rfl rfl hown10 rfl hsrc10 (by omega) (fun _ => rfl) (by omega) (by omega) (hbA _) ?_; intro wB a10' c10' o10 gB k10 z10
               have k10' : ∀ b, b < wA.heap.size → NB a10 b → wB.heap[b]? = wA.heap[b]? ∧ NB a10' b := fun b hb hn => ⟨(k10 b (by rw [heap_size_alloc]; omega) hn).1.trans (Below.heap_alloc _ _ _ hb), (k10 b (by rw [heap_size_alloc]; omega) hn).2⟩
               have z10' : wA.heap.size ≤ wB.heap.size := by rw [heap_size_alloc] at z10; omega
               have gB' : Below w1.heap.size wA wB := ((Below.refl _ wA).alloc (by have := gg.size; omega) _).trans gB))
          obtain ⟨RB, buB⟩ := R.apps bu o9 k9' z9' o10 k10' z10' (gA'.trans gB')
          have ggB := gg.trans (gA'.trans gB')
          clear hba hbA hown10 hsrc10 o9 gA k9 z9 k9' z9' gA' o10 gB k10 z10 k10' z10' gB' R bu gg
          go_roundg (nd - (i + 1))
          case measure => omega
          case rel =>
            have hws : d.q.ws.length = qL.length := by rw [HRE.out.len, List.length_take, List.length_map]; omega
            refine ⟨i + 1, all2, a9', c9', a10', c10', l ++ [⟨g, d, kk, S⟩], ls ++ [lt], by omega, rfl, by go_num, rfl, rfl, rfl, by omega, hid ?_, hid ?_, buB, ?_, hid ?_, hid ?_, hid ?_, ggB⟩
            · rw [show dsD (l ++ [⟨g, d, kk, S⟩]) = dsD l ++ [d] by unfold dsD; rw [List.map_append]; rfl, cn_snoc, ← HC.out, hws]; exact HA2.out
            · rw [List.length_append, HLl.out]; rfl
            · rw [show gsD (l ++ [⟨g, d, kk, S⟩]) = gsD l ++ [g] by unfold gsD; rw [List.map_append]; rfl]; exact RB
            · intro q hq
              rcases List.mem_append.1 hq with hq | hq
              · exact HLt.out q hq
              · rw [List.mem_singleton] at hq; subst hq; exact LT
            · refine HRd.out.snoc ?_ (L := qL.map Prod.fst) ?_ ?_
              · rw [HLl.out]; exact RB.r10.len |> fun e => by rw [List.length_append, List.length_singleton] at e; omega
              · rw [HLl.out]; unfold frsL lsQ; rw [List.getElem?_map, List.getElem?_map, HQ.out]; rfl
              · have := HRE.out
                rwa [List.take_of_length_le (by rw [List.length_map]; exact Nat.le_refl _)] at this
            · intro x hx
              rcases List.mem_append.1 hx with hx | hx
              · exact HG.out x hx
              · rw [List.mem_singleton] at hx; subst hx; exact HG1.out
    · obtain rfl : nd = i := by omega
      clear hlt hi
      obtain ⟨Ls, hLs⟩ : ∃ Ls, Ls = frsL (lsQ qs) := ⟨_, rfl⟩
      rw [← hLs] at HRd
      have hku : KeyU Ls := by rw [hLs]; exact HOI.out.keyU
      have hLl : Ls.length = nd := by rw [hLs]; unfold frsL lsQ; rw [List.length_map, List.length_map]; exact HLq.out
      have hRe : ∀ (j : Nat) (d : Dv) (L : List Fr), (dsD l)[j]? = some d → Ls[j]? = some L → ∃ fl, ReD fl L d := fun j d L hd hL => by
        unfold dsD at hd
        rw [List.getElem?_map] at hd
        cases hx : l[j]? with
        | none => rw [hx] at hd; cases hd
        | some x =>
          rw [hx] at hd; cases hd
          obtain ⟨L', lt, h1, _, h3⟩ := HRd.out j x hx
          rw [h1] at hL; cases hL
          exact ⟨_, h3⟩
      have hdl : (dsD l).length = Ls.length := by unfold dsD; rw [List.length_map, HLl.out, hLl]
      have O0 := ord_start hdl hRe
      have hall : all ≤ 12 := by
        rw [HC.out, cn_all hdl hRe, hLs]
        have := HOI.out.sum
        unfold frsL
        rw [List.map_map, show (List.length ∘ fun (L : List Ff) => L.map Prod.fst) = List.length by funext x; simp]
        omega
      rw [← HC.out] at O0
      obtain ⟨fls, hfls⟩ : ∃ fls : List (List Fi), fls = ls.map Prod.snd := ⟨_, rfl⟩
      have hlsl : ls.length = nd := R.r10.len
      have P0 : (dsD l).map Dv.pass = fls.map flF := by
        rw [hfls]
        unfold dsD
        apply List.ext_getElem?
        intro j
        simp only [List.getElem?_map]
        by_cases hj : j < nd
        · obtain ⟨x, hx⟩ : ∃ x, l[j]? = some x := ⟨_, List.getElem?_eq_getElem (by rw [HLl.out]; exact hj)⟩
          obtain ⟨L', lt, _, h2, h3⟩ := HRd.out j x hx
          rw [hx, h2]
          exact congrArg some h3.pass
        · rw [List.getElem?_eq_none (by rw [HLl.out]; omega), List.getElem?_eq_none (by omega)]; rfl
      obtain ⟨wL, rfl⟩ : ∃ wL, wL = wr := ⟨_, rfl⟩
      have h9L : ∀ q, a9 = some q → q.block < wL.heap.size := fun q hq => (R.r9.ltB hq).1
      have h10L : ∀ q, a10 = some q → q.block < wL.heap.size := fun q hq => (R.r10.ltB hq).1
      have hzL : w1.heap.size ≤ wL.heap.size := gg.size
      have HLS := hid hLs
      have HFLS := hid hfls
      have HKU := hid hku
      have HLL := hid hLl
      have HO0 := hid O0
      have HP0 := hid P0
      have S0 : SnW wL.heap.size wL l none 0 [] := SnW.new _ _ _
      clear hLs hfls hku hLl hRe hdl O0 P0 hal HRd HC
      go_wp2_with fail
      go_loopg [20, 111] all (fun gn s20 s111 wr => ∃ (m j t : Nat) (a20 : Option Addr) (c20 : Nat) (ss : List Ff) (l3 : List De), m ≤ all ∧ gn = all - m ∧ s111 = .int .i64 (m : Int) ∧ s20 = .slice a20 m c20 ∧ Hid (ss.length = m) ∧ j ≤ 400 * m ∧ Hid (t = 0 ∨ t = 3) ∧ Hid (OrdD Ls (ss.map Prod.fst) 20 all t (dsD l3)) ∧ Hid (gsD l3 = gsD l) ∧ Hid ((dsD l3).map Dv.pass = fls.map flF) ∧ BuO w1.heap.size wr l3 ∧ RwW w1.heap.size wr l3 a9 nd c9 (gsD l) a10 nd c10 ls ∧ SnW wL.heap.size wr l3 a20 c20 ss ∧ Hid (∀ x ∈ l3, DvG j x.d) ∧ Hid (∀ p ∈ ss, Good p.1 ∧ ∃ (j : Nat) (L : List Fr), Ls[j]? = some L ∧ p.1 ∈ L) ∧ wL.heap.size ≤ wr.heap.size ∧ Below w1.heap.size w1 wr)
      case atStart => exact ⟨0, 0, 3, none, 0, [], l, by omega, by omega, rfl, rfl, hid rfl, by omega, hid (.inr rfl), HO0, hid rfl, HP0, bu, R, S0, HG, hid (fun p hp => by cases hp), Nat.le_refl _, gg⟩
      case round =>
        obtain ⟨m, j, t, a20, c20, ss, l3, hm, rfl, rfl, rfl, HSL, hj, HT, HO, HGS, HPA, bu3, R3, S3, HG3, HSS, hz3, gg3⟩ := hrel
        clear bu R S0 gg HO0 HP0 HG
        by_cases hlt : m < all
        · have hss0 : (ss.map Prod.fst).length < all := by rw [List.length_map, HSL.out]; exact hlt
          obtain ⟨N, B, l', hru, O', hky, jB, LB, hLB, hBL⟩ := HO.out.step HT.out HKU.out (by rw [HLL.out]; exact HB.out.1) hss0 (by omega)
          have hgB : Good B := by
            rw [HLS.out] at hLB
            unfold frsL at hLB
            rw [List.getElem?_map] at hLB
            cases hx : (lsQ qs)[jB]? with
            | none => rw [hx] at hLB; cases hLB
            | some M =>
              rw [hx] at hLB; cases hLB
              obtain ⟨p, hp, rfl⟩ := List.mem_map.1 hBL
              exact HOI.out.good M (List.mem_of_getElem? hx) p hp
          have hru3 : RL pvD wr a9 nd c9 (gsD l3) := by rw [HGS.out]; exact R3.r9.rl
          have hRun : Calls Tryz.prog 23 #[.slice a9 nd c9, .int .i64 400] wr (RunX w1.heap.size wr l3 j 400 l' (1, N, B) true) := run_x (run14_any w1.heap.size wr l3 a9 nd c9 j 400 hru3 (fun q hq hb => R3.n9 q hq (bu3.wr hb)) bu3 HG3.out (by omega) (by have := HB.out; omega) (by have := HB.out; omega)) hru
          have hpa : (l'.map Dv.pass) = fls.map flF := by
            have := pass_ru 400 (dsD l3) (fun d hd => by
              unfold dsD at hd
              obtain ⟨x, hx, rfl⟩ := List.mem_map.1 hd
              exact (HG3.out x hx).I)
            rw [hru, HPA.out] at this
            exact this
          have HO2 := hid O'
          have HPA2 := hid hpa
          have HKY := hid hky
          have HGB := hid hgB
          have HBL : Hid (∃ (j : Nat) (L : List Fr), Ls[j]? = some L ∧ B ∈ L) := hid ⟨jB, LB, hLB, hBL⟩
          clear hru O' hky hLB hBL hgB hru3 hpa hss0
          go_upto_region 29 with (first
            | (go_at_call 23; (with_reducible refine hRun.mono ?_); rintro e w4 ⟨a', c', l4, j4, rfl, d1, d2, d3, d4, d5, d6, d7, d8, d9, d10, d11⟩
               have z4 := heap_alloc_new w4 (.cells noZ 73))
            | (with_reducible refine wpList_storeR rowN rfl _ _ rfl _ _ rfl rfl z4 rfl rfl (no_ones _ _ _) ?_))
          have R4 := R3.ch bu3 d4 d5
          have S4 := S3.ch bu3 d4 d5 d6
          have gg4 := bu3.bel d4 gg3 (Nat.le_refl _) (Nat.le_refl _)
          obtain ⟨bu5, hxn, hxb, g5⟩ := d3.box (T := 73) noZ (noV (1, N, B) a' c')
          have R5 := R4.below g5
          have S5 := S4.below g5
          have gg5 := bstep gg4 g5
          have hdB := d10.rl.below g5
          have hdn : ∀ q, a' = some q → ¬ busW l4 q.block ∧ NB a20 q.block ∧ q.block < ((w4.alloc (.cells noZ 73)).setRow w4.heap.size (noV (1, N, B) a' c')).heap.size := fun q hq =>
            ⟨d11 q hq, fun r hr e => by have := (d10.ltB hq).2; have := (S3.row.ltB hr).1; omega, Nat.lt_of_lt_of_le (d10.ltB hq).1 g5.size⟩
          have HG4 := hid d7
          rw [← d1] at HO2 HPA2
          have HGS4 : Hid (gsD l4 = gsD l) := hid (d2.trans HGS.out)
          have hz5 : wL.heap.size ≤ ((w4.alloc (.cells noZ 73)).setRow w4.heap.size (noV (1, N, B) a' c')).heap.size := by have := d4.size; have := g5.size; omega
          have hxs : a20 = none ∨ ∀ q, a20 = some q → q.block ≠ w4.heap.size := .inr fun q hq e => by have := (S4.row.ltB hq).1; omega
          clear hRun bu3 R3 S3 gg3 d1 d2 d3 d4 d5 d6 d7 d10 d11 z4 R4 S4 gg4 g5 HO HPA HGS HG3 hxs
          generalize (w4.alloc (.cells noZ 73)).setRow w4.heap.size (noV (1, N, B) a' c') = V at *
          generalize w4.heap.size = xb at *
          have hidB : B.id < 4294967296 := by have := HGB.out.id; split at this <;> omega
          go_cut [137] (fun s137 wx => s137 = .bool false ∧ Below V.heap.size V wx)
          case first =>
            have qx := fun (k : Nat) (v : Value) (h : (noV (1, N, B) a' c')[k]? = some v) => cell_regrown (w := V) (a := ⟨xb, k, none⟩) (v := v) (by rw [cell_of_row _ _ k _ _ _ hxb]; exact h)
            have x2 := qx 2 (.int .u32 (B.id : Int)) rfl
            have x3 := qx 3 (.bool B.ext) rfl
            have x4 := qx 4 (.bool B.rem) rfl
            have x5 := qx 5 (.int .u8 (B.dlc : Int)) rfl
            have x6 := qx 6 (.slice a' B.data.length c') rfl
            have hK2 := fun d os => Calls.regrown_of (key_any (grow (redrawn V d) os) B.id B.ext B.rem B.dlc a' B.data.length c' hidB)
            clear qx
            by_cases hm0 : m = 0
            · subst hm0
              refine wp_region_quiet_below (by kernel_rfl) (by kernel_rfl) ?_
              repeat (go_big_quiet_step (fail))
              refine wpQuiet_nil ?_
              intro w9 hw9
              have gg : Below V.heap.size V w9 := by obtain ⟨p9, rfl⟩ := hw9; exact below_regrown _ _ _
              clear hw9
              go_wp2_with fail
              go_meet
              exact ⟨rfl, gg⟩
            · obtain ⟨mq, rfl⟩ : ∃ mq : Nat, m = mq + 1 := ⟨m - 1, by omega⟩
              obtain ⟨pl, hpl0⟩ : ∃ pl, ss[mq]? = some pl := ⟨_, List.getElem?_eq_getElem (by rw [HSL.out]; omega)⟩
              have hlast : (ss.map Prod.fst).getLast? = some pl.1 := by
                rw [List.getLast?_eq_getElem?, List.length_map, HSL.out, List.getElem?_map, show mq + 1 - 1 = mq by omega, hpl0]; rfl
              have hlt2 : kyP pl < kyG B := HKY.out pl.1 hlast
              have hge : ¬ (keyF B.id B.ext B.rem : Int) ≤ (keyF pl.1.id pl.1.ext pl.1.rem : Int) := by have : keyF pl.1.id pl.1.ext pl.1.rem < keyF B.id B.ext B.rem := hlt2; omega
              have hidp : pl.1.id < 4294967296 := by have := (HSS.out pl (List.mem_of_getElem? hpl0)).1.id; split at this <;> omega
              obtain ⟨sg, rfl, hsg1, hsg2⟩ := S5.row.addr (by rw [HSL.out]; omega)
              have hpr := S5.row.range enF_k hpl0
              have hK1 := fun d os => Calls.regrown_of (key_any (grow (redrawn V d) os) pl.1.id pl.1.ext pl.1.rem pl.1.dlc pl.2.1 pl.1.data.length pl.2.2 hidp)
              have qs0 := fun (k : Nat) (v : Value) (h : (enF pl)[k]? = some v) => cell_regrown (w := V) (a := ⟨sg, mq * 5 + k, none⟩) (v := v) (hpr k v h)
              have y0' : ∀ d os, (grow (redrawn V d) os).cell? ⟨sg, mq * 5, none⟩ = some (.int .u32 (pl.1.id : Int)) := qs0 0 _ rfl
              have y1 := qs0 1 (.bool pl.1.ext) rfl
              have y2 := qs0 2 (.bool pl.1.rem) rfl
              have y3 := qs0 3 (.int .u8 (pl.1.dlc : Int)) rfl
              have y4 := qs0 4 (.slice pl.2.1 pl.1.data.length pl.2.2) rfl
              generalize keyF pl.1.id pl.1.ext pl.1.rem = kp at *
              generalize keyF B.id B.ext B.rem = kb at *
              have hge2 : ¬ kb ≤ kp := by omega
              clear hlast hlt2 hpl0 qs0 hpr
              refine wp_region_quiet_below (by kernel_rfl) (by kernel_rfl) ?_
              repeat (go_big_quiet_step (first | (go_at_call 24; with_reducible exact hK1 _ _) | (go_at_call 24; with_reducible exact hK2 _ _)))
              refine wpQuiet_nil ?_
              intro w9 hw9
              have gg : Below V.heap.size V w9 := by obtain ⟨p9, rfl⟩ := hw9; exact below_regrown _ _ _
              clear hw9
              go_wp2_with fail
              go_meet
              exact ⟨rfl, gg⟩
          case rest =>
          obtain ⟨rfl, gx⟩ := hcut
          have bu6 := bu5.below gx
          have R6 := R5.below gx
          have S6 := S5.below gx
          have gg6 := bstep gg5 gx
          have hrg := no_range (bx_below hxb gx)
          have hdB6 := hdB.below gx
          have hrow : OK enF 5 35 wL.heap.size wc a20 m c20 ss := by have := S6.row; rwa [HSL.out] at this
          have hown := hrow.alloc (.cells (frV B a' c') 35)
          have hsrc := (ok_lit enF_k 35 0 wc [(B, (a', c'))] (frV B a' c') 1 rfl rfl (by omega) (Nat.zero_le _)).rk enF_k
          have hzc : wL.heap.size ≤ wc.heap.size := by have := gx.size; omega
          have hba : ∀ o, wL.heap.size ≤ (wc.alloc o).heap.size := fun o => by rw [heap_size_alloc]; omega
          have hxc : xb < wc.heap.size := bx_lt (bx_below hxb gx)
          clear bu5 R5 S5 gg5 hxb hdB hrow
          go_wp2_with (first
            | (with_reducible refine wpList_loadM rowF rfl _ rfl xb 2 rfl (frV B a' c') hrg rfl ?_)
            | (with_reducible refine wpList_appgK elF14 enF_k rfl _ _ rfl rfl hown rfl hsrc (by omega) (by omega) (by omega) (hba _) ?_; intro w7 a7 c7 o7 g7 k7 z7))
          have k7' : ∀ b, b < wc.heap.size → NB a20 b → w7.heap[b]? = wc.heap[b]? ∧ NB a7 b := fun b hb hn => ⟨(k7 b (by rw [heap_size_alloc]; omega) hn).1.trans (Below.heap_alloc _ _ _ hb), (k7 b (by rw [heap_size_alloc]; omega) hn).2⟩
          have z7' : wc.heap.size ≤ w7.heap.size := by rw [heap_size_alloc] at z7; omega
          have g7' : Below wL.heap.size wc w7 := ((Below.refl _ wc).alloc hzc _).trans g7
          obtain ⟨S7, bu7⟩ := S6.app (x := (B, (a', c'))) bu6 hdB6 (fun q hq => ⟨(hdn q hq).1, (hdn q hq).2.1, Nat.lt_of_lt_of_le (hdn q hq).2.2 gx.size⟩) (by rw [HSL.out]; exact o7) k7' g7' z7'
          have R7 := R6.kept (w1 := w7) (Y := wL.heap.size) (fun b hb => (k7' b (by omega) (fun q hq e => by have := (S6.row.ltB hq).2; omega)).1) h9L h10L
          have gg7 : Below w1.heap.size w1 w7 := gg6.trans (g7'.mono hzL)
          clear hown hsrc hba o7 g7 k7 z7 k7' g7' S6 bu6 R6 gg6 hdB6 hdn hrg
          go_roundg (all - (m + 1))
          case measure => omega
          case rel => exact ⟨m + 1, j4, 0, a7, c7, ss ++ [(B, (a', c'))], l4, by omega, rfl, by go_num, rfl, hid (by rw [List.length_append, HSL.out]; rfl), by omega, hid (.inl rfl), hid (by rw [List.map_append]; exact HO2.out), HGS4, HPA2, bu7, R7, S7, HG4, hid (fun p hp => by
            rcases List.mem_append.1 hp with hp | hp
            · exact HSS.out p hp
            · rw [List.mem_singleton] at hp; subst hp; exact ⟨HGB.out, HBL.out⟩), by omega, gg7⟩
        · obtain rfl : all = m := by omega
          clear hlt hm
          obtain ⟨sent, hsent⟩ : ∃ sent, sent = ss.map Prod.fst := ⟨_, rfl⟩
          have hsl : sent.length = all := by rw [hsent, List.length_map, HSL.out]
          obtain ⟨l', T, hru, hps⟩ := HO.out.rest HT.out (by rw [← hsent]; exact hsl) (n := 60) (by omega)
          have hru3 : RL pvD wr a9 nd c9 (gsD l3) := by rw [HGS.out]; exact R3.r9.rl
          have hRun : Calls Tryz.prog 23 #[.slice a9 nd c9, .int .i64 60] wr (RunX w1.heap.size wr l3 j 60 l' noN false) := run_x (run14_any w1.heap.size wr l3 a9 nd c9 j 60 hru3 (fun q hq hb => R3.n9 q hq (bu3.wr hb)) bu3 HG3.out (by omega) (by have := HB.out; omega) (by have := HB.out; omega)) hru
          have hfin : ∀ (j : Nat) (d : Dv) (L : List Fr) (f : List Fi), l'[j]? = some d → Ls[j]? = some L → fls[j]? = some f → FinD f L sent 0 d := fun j d L f h1 h2 h3 => by
            have := fin_all HO.out (by rw [← hsent]; exact hsl) hps HPA.out h1 h2 h3
            rwa [← hsent] at this
          have HFIN := hid hfin
          have HSE := hid hsent
          clear hru hru3 hps hfin hsent
          go_upto_region 34 with (first
            | (go_at_call 23; (with_reducible refine hRun.mono ?_); rintro e w4 ⟨a', c', l4, j4, rfl, d1, d2, d3, d4, d5, d6, d7, d8, d9, d10, d11⟩
               have z4 := heap_alloc_new w4 (.cells noZ 73))
            | (with_reducible refine wpList_storeR rowN rfl _ _ rfl _ _ rfl rfl z4 rfl rfl (no_ones _ _ _) ?_))
          have R4 := R3.ch bu3 d4 d5
          have S4 := S3.ch bu3 d4 d5 d6
          have gg4 := bu3.bel d4 gg3 (Nat.le_refl _) (Nat.le_refl _)
          obtain ⟨bu5, hxn, hxb, g5⟩ := d3.box (T := 73) noZ (noV noN a' c')
          have R5 := R4.below g5
          have S5 := S4.below g5
          have gg5 := bstep gg4 g5
          have HGS4 : Hid (gsD l4 = gsD l) := hid (d2.trans HGS.out)
          rw [← d1] at HFIN
          clear hRun bu3 R3 S3 gg3 d1 d2 d3 d4 d5 d6 d7 d8 d9 d10 d11 z4 R4 S4 gg4 g5 hxn hxb HO HPA HGS HG3 hz3 HT hj
          generalize (w4.alloc (.cells noZ 73)).setRow w4.heap.size (noV noN a' c') = V at *
          generalize w4.heap.size = xb at *
          go_wp2_with fail
          go_loopg [152] nd (fun gn s152 wr => ∃ (i : Nat) (l6 : List De), i ≤ nd ∧ gn = nd - i ∧ s152 = .int .i64 (i : Int) ∧ BuO w1.heap.size wr l6 ∧ RwW w1.heap.size wr l6 a9 nd c9 (gsD l) a10 nd c10 ls ∧ SnW wL.heap.size wr l6 a20 c20 ss ∧ Hid (gsD l6 = gsD l) ∧ Hid (∀ (j : Nat) (x : De) (L : List Fr) (f : List Fi), i ≤ j → l6[j]? = some x → Ls[j]? = some L → fls[j]? = some f → FinD f L sent 0 x.d) ∧ Below w1.heap.size w1 wr)
          case atStart => exact ⟨0, l4, by omega, by omega, rfl, bu5, R5, S5, HGS4, hid (fun j x L f _ hx hL hf => HFIN.out j x.d L f (by unfold dsD; rw [List.getElem?_map, hx]; rfl) hL hf), gg5⟩
          case round =>
            obtain ⟨i, l6, hi, rfl, rfl, bu6, R6, S6, HGS6, HF6, gg6⟩ := hrel
            clear bu5 R5 S5 gg5 HFIN HGS4
            by_cases hlt : i < nd
            · have hl6 : l6.length = nd := by
                have := congrArg List.length HGS6.out
                unfold gsD at this
                rwa [List.length_map, List.length_map, HLl.out] at this
              obtain ⟨x, hx⟩ : ∃ x, l6[i]? = some x := ⟨_, List.getElem?_eq_getElem (by rw [hl6]; exact hlt)⟩
              obtain ⟨⟨⟨qa, qc⟩, qL⟩, hq⟩ : ∃ q, qs[i]? = some q := ⟨_, List.getElem?_eq_getElem (by rw [HLq.out]; exact hlt)⟩
              obtain ⟨lt, hlt2⟩ : ∃ lt, ls[i]? = some lt := ⟨_, List.getElem?_eq_getElem (by omega)⟩
              have hLi : Ls[i]? = some (qL.map Prod.fst) := by rw [HLS.out]; unfold frsL lsQ; rw [List.getElem?_map, List.getElem?_map, hq]; rfl
              have hfi : fls[i]? = some lt.2 := by rw [HFLS.out, List.getElem?_map, hlt2]; rfl
              have hF0 := HF6.out i x _ _ (Nat.le_refl _) hx hLi hfi
              have LT := HLt.out lt (List.mem_of_getElem? hlt2)
              obtain ⟨b9, o9, g, e9, hg9, hc9⟩ := R6.r9.rl.at hlt
              have hxg : x.g = g := by
                have : (gsD l6)[i]? = some x.g := by unfold gsD; rw [List.getElem?_map, hx]; rfl
                rw [HGS6.out, hg9] at this
                exact (Option.some.inj this).symm
              subst hxg
              have hq12 : qL.length ≤ 12 := by
                have h1 : qL.length ∈ (lsQ qs).map List.length := List.mem_map.2 ⟨qL, List.mem_map.2 ⟨_, List.mem_of_getElem? hq, rfl⟩, rfl⟩
                have := mem_sum _ _ h1
                have := HOI.out.sum
                omega
              have hgood : ∀ p ∈ qL, Good p.1 := fun p hp => HOI.out.good qL (List.mem_map.2 ⟨_, List.mem_of_getElem? hq, rfl⟩) p hp
              have hqr : RK enF 5 w1 qa qL.length qc qL := oD.q _ (List.mem_of_getElem? hq)
              have hmm := @run_makeMap Tryz.prog
              obtain ⟨w6, rfl⟩ : ∃ w6, w6 = wr := ⟨_, rfl⟩
              obtain ⟨mb, hmb⟩ : ∃ mb, mb = w6.heap.size := ⟨_, rfl⟩
              obtain ⟨wM, hwM, M0, gM⟩ : ∃ wM, Hid (w6.alloc (.map #[] 0) = wM) ∧ MU wM mb 0 (.map []) ∧ Below w6.heap.size w6 wM := ⟨_, rfl, by rw [hmb]; exact World.ownsMap_made w6 Tryz.prog 32 (plainElem Tryz.prog 3), bnew0 w6 _⟩
              obtain ⟨b8, o8, q8, e8, hq8, hc8⟩ := (oD.row.below (bstep gg6 gM)).at hlt
              cases e8
              rw [hq] at hq8
              cases hq8
              have hcL : wM.cell? ⟨ob, i, none⟩ = some (.slice qa qL.length qc) := by rw [Nat.zero_add] at hc8; exact hc8
              have HX := hid hx
              have HQ := hid hq
              have HLT2 := hid hlt2
              have HLI := hid hLi
              have HF0 := hid hF0
              have HMB := hid hmb
              have HGO := hid hgood
              subst e9
              clear hx hq hlt2 hLi hfi hF0 hg9 hgood hc8 hmb hl6
              go_wp2_with (rw [← HMB.out, hwM.out])
              clear hc9 hcL hmm hwM
              go_loopg [163] qL.length (fun gn s163 wr => ∃ (k nD : Nat) (D : DataW Unit), k ≤ qL.length ∧ gn = qL.length - k ∧ s163 = .int .i64 (k : Int) ∧ MU wr mb nD D ∧ HitU D ((qL.take k).map kyP) ∧ nD ≤ k ∧ Below w6.heap.size w6 wr)
              case atStart => exact ⟨0, 0, _, by omega, by omega, rfl, M0, hitU_made, Nat.le_refl _, gM⟩
              case round =>
                obtain ⟨k, nD, D, hk, rfl, rfl, hM, hD, hnD, gk⟩ := hrel
                clear M0 gM
                by_cases hkl : k < qL.length
                · obtain ⟨p, hp⟩ : ∃ p, qL[k]? = some p := ⟨_, List.getElem?_eq_getElem hkl⟩
                  have hidp : p.1.id < 4294967296 := by have := (HGO.out p (List.mem_of_getElem? hp)).id; split at this <;> omega
                  obtain ⟨gb, off, rfl, hgb, hrg⟩ := (hqr.below (bstep gg6 gk)).range hp
                  have b2 := heap_alloc_new wr (.cells frZr 35)
                  have k2 : Below wr.heap.size wr ((wr.alloc (.cells frZr 35)).setRow wr.heap.size (frV p.1 p.2.1 p.2.2)) := below_setRow (bnew0 wr _) (Nat.le_refl _) _
                  have b3 : ((wr.alloc (.cells frZr 35)).setRow wr.heap.size (frV p.1 p.2.1 p.2.2)).heap[wr.heap.size]? = some (.cells (frV p.1 p.2.1 p.2.2) 35 (0, 0)) := setRow_heap _ _ _ _ _ _ b2
                  have cK : ∀ w', Calls Tryz.prog 24 #[.agg (frV p.1 p.2.1 p.2.2)] w' fun e w'' => e = .returned (.int .u32 (kyP p : Int)) ∧ Below w'.heap.size w' w'' := fun w' => key_any w' _ _ _ _ _ _ _ hidp
                  have hky : kyP p < 4294967296 := key_lt _ _ _
                  have hwf := wfU (kyP p) hky
                  obtain ⟨cv, hat, hc0, hc1, _⟩ := hD.2 (kyP p)
                  have hc2 : cv ≤ 12 := by rw [List.length_map, List.length_take] at hc1; omega
                  have hmx : nD < maxLen := Nat.lt_of_le_of_lt (by omega : nD ≤ 12) (by decide)
                  have HAT := hid hat
                  have HD := hid hD
                  have HP := hid hp
                  clear hat hD hp hc1
                  go_wp2_with (first
                    | (with_reducible refine wpList_loadM rowF rfl _ rfl _ _ rfl (frV p.1 p.2.1 p.2.2) hrg rfl ?_)
                    | (with_reducible refine wpList_storeR rowF rfl _ _ rfl _ _ rfl rfl b2 rfl rfl (fr_ones _ _ _) ?_)
                    | (with_reducible refine wpList_loadR rowF rfl _ rfl _ rfl b3 rfl ?_)
                    | (go_at_call 24; (with_reducible refine (cK _).mono ?_); rintro e w3 ⟨rfl, g3⟩
                       have k4 := bstep k2 g3
                       have hM4 := hM.below k4
                       have hl4 := mu_look hM4 HAT.out hwf)
                    | (at_mapUpdate; refine wpList_mapUpdate_own _ rfl _ _ _ 77 rfl 32 3 lawU Tryz.underlying77 _ mb nD D rfl hM4 hmx _ (.int .i64 (cv + 1)) (.int .u32 (kyP p : Int)) rfl rfl (keyOf_int_mk Tryz.underlying32 hwf) (.lit (.int .i64 (cv + 1))) [] (plainElem_int Tryz.underlying3 (wf64 _ (by omega) (by omega))) ?_; intro w5 hM5 hgr5))
                  have hM5' : ∃ n5, n5 ≤ k + 1 ∧ MU w5 mb n5 (D.put (.int .u32 (kyP p : Int)) (.lit (.int .i64 (cv + 1)))) := by
                    by_cases hc : cv = 0
                    · exact ⟨nD + 1, by omega, by simpa [hc] using hM5⟩
                    · exact ⟨nD + 1, by omega, by simpa [hc] using hM5⟩
                  obtain ⟨n5, hn5, hM6⟩ := hM5'
                  have k5 := (bstep gk k4).grown hgr5 (by have := gk.size; have := k4.size; omega) (fun q hq => by cases hq; have := HMB.out; omega)
                  have hTk : (qL.take (k + 1)).map kyP = (qL.take k).map kyP ++ [kyP p] := by rw [List.take_add_one, HP.out, List.map_append]; rfl
                  have hD6 := hitU_put HD.out HAT.out
                  rw [← hTk] at hD6
                  clear hrg hM hM4 hl4 hM5 hgr5 cK b2 b3 k2 k4 g3 gk hTk hc0
                  go_roundg (qL.length - (k + 1))
                  case measure => omega
                  case rel => exact ⟨k + 1, n5, _, by omega, rfl, by go_num, hM6, hD6, hn5, k5⟩
                · obtain rfl : k = qL.length := by omega
                  rw [List.take_length] at hD
                  have hmb6 : ¬ busS l6 mb := fun hb => by have := (bu6.lt hb).1; have := HMB.out; omega
                  have bu7 := bu6.below gk
                  have R7 := R6.below gk
                  have S7 := S6.below gk
                  have gg7 := bstep gg6 gk
                  have HD := hid hD
                  have HFN : Hid (∀ (j : Nat) (y : De) (L : List Fr) (f : List Fi), i + 1 ≤ j → l6[j]? = some y → Ls[j]? = some L → fls[j]? = some f → FinD f L sent 0 y.d) := hid fun j y L f hj h1 h2 h3 => HF6.out j y L f (by omega) h1 h2 h3
                  clear bu6 R6 S6 gg6 gk hD hkl hnD hk HF6
                  go_wp2_with fail
                  go_loopg [175] all (fun gn s175 wr => ∃ (q : Nat) (l7 : List De) (x7 : De), q ≤ all ∧ gn = all - q ∧ s175 = .int .i64 (q : Int) ∧ BuO w1.heap.size wr l7 ∧ RwW w1.heap.size wr l7 (some ⟨b9, o9, none⟩) nd c9 (gsD l) a10 nd c10 ls ∧ SnW wL.heap.size wr l7 a20 c20 ss ∧ Hid (gsD l7 = gsD l) ∧ Hid (l7[i]? = some x7) ∧ Hid (x7.g = x.g) ∧ Hid (FinD lt.2 (qL.map Prod.fst) sent q x7.d) ∧ Hid (∀ (j : Nat) (y : De) (L : List Fr) (f : List Fi), i + 1 ≤ j → l7[j]? = some y → Ls[j]? = some L → fls[j]? = some f → FinD f L sent 0 y.d) ∧ MU wr mb nD D ∧ ¬ busS l7 mb ∧ Below w1.heap.size w1 wr)
                  case atStart => exact ⟨0, l6, x, by omega, by omega, rfl, bu7, R7, S7, HGS6, HX, hid rfl, HF0, HFN, hM, hmb6, gg7⟩
                  case round =>
                    obtain ⟨q, l7, x7, hq, rfl, rfl, bu8, R8, S8, HGS8, HX7, HXG, HF8, HFN8, hM8, hmb8, gg8⟩ := hrel
                    clear bu7 R7 S7 gg7 hM hmb6 HFN HF0 HX
                    by_cases hlt9 : q < all
                    · obtain ⟨p, hp⟩ : ∃ p, ss[q]? = some p := ⟨_, List.getElem?_eq_getElem (by rw [HSL.out]; exact hlt9)⟩
                      have hsq : sent[q]? = some p.1 := by rw [HSE.out, List.getElem?_map, hp]; rfl
                      have hpg := HSS.out p (List.mem_of_getElem? hp)
                      have hpm : p ∈ ss := List.mem_of_getElem? hp
                      have hidp : p.1.id < 4294967296 := by have := hpg.1.id; split at this <;> omega
                      obtain ⟨gb, off, rfl, hgb, hrg⟩ := (S8.row.rk enF_k).range hp
                      have b2 := heap_alloc_new wr (.cells frZr 35)
                      have k2 : Below wr.heap.size wr ((wr.alloc (.cells frZr 35)).setRow wr.heap.size (frV p.1 p.2.1 p.2.2)) := below_setRow (bnew0 wr _) (Nat.le_refl _) _
                      have b3 : ((wr.alloc (.cells frZr 35)).setRow wr.heap.size (frV p.1 p.2.1 p.2.2)).heap[wr.heap.size]? = some (.cells (frV p.1 p.2.1 p.2.2) 35 (0, 0)) := setRow_heap _ _ _ _ _ _ b2
                      have HSQ := hid hsq
                      have HPG := hid hpg
                      have HPM := hid hpm
                      clear hp hsq hpg hpm
                      go_upto_region 48 with (first
                        | (with_reducible refine wpList_loadM rowF rfl _ rfl _ _ rfl (frV p.1 p.2.1 p.2.2) hrg rfl ?_)
                        | (with_reducible refine wpList_storeR rowF rfl _ _ rfl _ _ rfl rfl b2 rfl rfl (fr_ones _ _ _) ?_))
                      have hfb : ¬ busS l7 wr.heap.size := fun hb => by have := (bu8.lt hb).1; omega
                      have bu9 := bu8.below k2
                      have R9 := R8.below k2
                      have S9 := S8.below k2
                      have gg9 := bstep gg8 k2
                      have hM9 := hM8.below k2
                      clear bu8 R8 S8 gg8 b2 k2 hrg hM8
                      generalize (wr.alloc (.cells frZr 35)).setRow wr.heap.size (frV p.1 p.2.1 p.2.2) = V at *
                      generalize wr.heap.size = fb at *
                      obtain ⟨bb, hbb⟩ : ∃ bb : Bool, bb = (decide (kyP p ∈ qL.map kyP) || !passF p.1.id p.1.ext lt.2) := ⟨_, rfl⟩
                      have HBB := hid hbb
                      clear hbb
                      try rw [put_none12]
                      try rw [put_none12]
                      change Code.wp _ _ _ _ V
                      go_cut [192] (fun s192 wx => s192 = .bool bb ∧ Below V.heap.size V wx)
                      case first =>
                        have qx := fun (k : Nat) (v : Value) (h : (frV p.1 p.2.1 p.2.2)[k]? = some v) => cell_regrown (w := V) (a := ⟨fb, k, none⟩) (v := v) (by rw [cell_of_row _ _ k _ _ _ b3]; exact h)
                        have x0 := qx 0 (.int .u32 (p.1.id : Int)) rfl
                        have x1 := qx 1 (.bool p.1.ext) rfl
                        have x2 := qx 2 (.bool p.1.rem) rfl
                        have x3 := qx 3 (.int .u8 (p.1.dlc : Int)) rfl
                        have x4 := qx 4 (.slice p.2.1 p.1.data.length p.2.2) rfl
                        have hK := fun d os => Calls.regrown_of (key_any (grow (redrawn V d) os) p.1.id p.1.ext p.1.rem p.1.dlc p.2.1 p.1.data.length p.2.2 hidp)
                        obtain ⟨cv, hat, hc0, hc1, hc2⟩ := HD.out.2 (kyP p)
                        have hwf := wfU (kyP p) (key_lt _ _ _)
                        have hl := fun d os => mu_look (hM9.below (below_regrown V d os)) hat hwf
                        have LTV := LT.below gg9
                        have hP := fun d os => Calls.regrown_of (fiPass_any (grow (redrawn V d) os) lt.1.1 lt.2.length lt.1.2 lt.2 p.1.id p.1.ext p.1.rem (.int .u8 (p.1.dlc : Int)) (.slice p.2.1 p.1.data.length p.2.2) (LTV.below (below_regrown V d os)).row LTV.ok (Nat.le_trans LTV.le (by omega)) hidp)
                        obtain ⟨b10, o10, lt', rfl, h10, hc10⟩ := R9.r10.rl.at hlt
                        rw [HLT2.out] at h10
                        cases h10
                        have y10 := fun d os => cell_regrown hc10 d os
                        clear qx hM9 hat hc1 R9 bu9 S9
                        have hmk : kyP p ∈ qL.map kyP ↔ ¬ cv = 0 := by rw [hc2]; exact Classical.not_not.symm
                        have hbe : bb = (decide (¬ cv = 0) || !passF p.1.id p.1.ext lt.2) := by rw [HBB.out, decide_eq_decide.2 hmk]
                        have HKP : Hid (keyF p.1.id p.1.ext p.1.rem = kyP p) := hid rfl
                        rw [HKP.out] at hK
                        generalize kyP p = kp at *
                        generalize passF p.1.id p.1.ext lt.2 = pv at *
                        clear hc2 hmk hwf
                        by_cases hcz : cv = 0
                        · subst hcz
                          have hbe2 : (!pv) = bb := by rw [hbe]; simp
                          clear hbe hc0
                          refine wp_region_quiet_below (by kernel_rfl) (by kernel_rfl) ?_
                          repeat (go_big_quiet_step (first | (go_at_call 24; with_reducible exact hK _ _) | (go_at_call 25; with_reducible exact hP _ _)))
                          refine wpQuiet_nil ?_
                          intro w9 hw9
                          have gg : Below V.heap.size V w9 := by obtain ⟨p9, rfl⟩ := hw9; exact below_regrown _ _ _
                          clear hw9
                          go_wp2_with fail
                          go_meet
                          exact ⟨by first | rfl | rw [hbe2], gg⟩
                        · have hbe2 : Hid (true = bb) := hid (by rw [hbe]; simp [hcz])
                          have hpos : decide ((0 : Int) < cv) = true := decide_eq_true (by omega)
                          clear hbe hc0 hcz
                          refine wp_region_quiet_below (by kernel_rfl) (by kernel_rfl) ?_
                          repeat (go_big_quiet_step (first | (go_at_call 24; with_reducible exact hK _ _) | (go_at_call 25; with_reducible exact hP _ _)))
                          refine wpQuiet_nil ?_
                          intro w9 hw9
                          have gg : Below V.heap.size V w9 := by obtain ⟨p9, rfl⟩ := hw9; exact below_regrown _ _ _
                          clear hw9
                          go_wp2_with fail
                          go_meet
                          exact ⟨by rw [← hbe2.out], gg⟩
                      case rest =>
                      obtain ⟨rfl, gx⟩ := hcut
                      have bu10 := bu9.below gx
                      have R10 := R9.below gx
                      have S10 := S9.below gx
                      have gg10 := bstep gg9 gx
                      have hM10 := hM9.below gx
                      have b10 := bx_below b3 gx
                      clear bu9 R9 S9 gg9 hM9 b3 gx
                      have hown : kyP p ∈ qL.map kyP ↔ p.1 ∈ qL.map Prod.fst := by
                        obtain ⟨jp, Lp, h1, h2⟩ := HPG.out.2
                        have := key_own HKU.out HLI.out h1 h2
                        rwa [List.map_map] at this
                      have HOWN := hid hown
                      clear hown
                      cases bb
                      · have hpass : flF lt.2 p.1 = true ∧ p.1 ∉ qL.map Prod.fst := by
                          have := HBB.out
                          rw [eq_comm, Bool.or_eq_false_iff, decide_eq_false_iff_not, HOWN.out, Bool.not_eq_false'] at this
                          exact ⟨this.2, this.1⟩
                        obtain ⟨tm, rs, hx7, hF'⟩ := HF8.out.read HSQ.out hpass.2 hpass.1
                        have hRd := dvRead_any (bu10.dv x7 (List.mem_of_getElem? HX7.out)) (p.1, tm) rs hx7
                        rw [HXG.out] at hRd
                        have HF9 := hid hF'
                        clear hx7 hF' hpass
                        go_upto_region 50 with (first
                          | (go_at_call 26; (with_reducible refine hRd.mono ?_); rintro e w4 ⟨da, dc, rfl, od, o4⟩
                             have z4 := heap_alloc_new w4 (.cells rxZ 80))
                          | (with_reducible refine wpList_storeR rowX rfl _ _ rfl _ _ rfl rfl z4 rfl rfl (rx_ones _) ?_))
                        rw [← HXG.out] at o4
                        obtain ⟨k4, S4', bu4, ch4, s4, x4⟩ := bu10.setR HX7.out o4
                        have R4 := R10.ch bu10 ch4 s4
                        have SN4 := S10.ch bu10 ch4 s4 x4
                        have gg4 := bu10.bel ch4 gg10 (Nat.le_refl _) (Nat.le_refl _)
                        have hM4 := hM10.at (ch4.block mb hM10.lt (fun hb => hmb8 (bu10.wr hb)))
                        have b4 := ch4.bx b10 (fun hb => hfb (bu10.wr hb))
                        have hmb4 := fun hb => (s4 mb hb).elim hmb8 (fun e => by have := hM10.lt; omega)
                        have HGS4 : Hid (gsD (l7.set i ⟨x7.g, { x7.d with rx := rs }, k4, S4'⟩) = gsD l) := hid (by
                          rw [← HGS8.out]
                          unfold gsD
                          rw [List.map_set]
                          refine set_same ?_
                          rw [List.getElem?_map, HX7.out]; rfl)
                        have hi7 : i < l7.length := (List.getElem?_eq_some_iff.1 HX7.out).1
                        have HX4 : Hid ((l7.set i ⟨x7.g, { x7.d with rx := rs }, k4, S4'⟩)[i]? = some ⟨x7.g, { x7.d with rx := rs }, k4, S4'⟩) := hid (List.getElem?_set_self hi7)
                        have HFN4 : Hid (∀ (j : Nat) (y : De) (L : List Fr) (f : List Fi), i + 1 ≤ j → (l7.set i ⟨x7.g, { x7.d with rx := rs }, k4, S4'⟩)[j]? = some y → Ls[j]? = some L → fls[j]? = some f → FinD f L sent 0 y.d) := hid fun j y L f hj h1 h2 h3 => HFN8.out j y L f hj (by rwa [List.getElem?_set_ne (by omega)] at h1) h2 h3
                        have HXG4 : Hid ((⟨x7.g, { x7.d with rx := rs }, k4, S4'⟩ : De).g = x.g) := HXG
                        have HF4 : Hid (FinD lt.2 (qL.map Prod.fst) sent (q + 1) (⟨x7.g, { x7.d with rx := rs }, k4, S4'⟩ : De).d) := HF9
                        generalize l7.set i (⟨x7.g, { x7.d with rx := rs }, k4, S4'⟩ : De) = l8 at *
                        generalize (⟨x7.g, { x7.d with rx := rs }, k4, S4'⟩ : De) = x8 at *
                        have g5 : Below w4.heap.size w4 ((w4.alloc (.cells rxZ 80)).setRow w4.heap.size (rxV ((p.1, (da, dc)), tm))) := below_setRow (bnew0 w4 _) (Nat.le_refl _) _
                        have hr5 := rx_range (setRow_heap _ _ _ (rxV ((p.1, (da, dc)), tm)) _ _ z4)
                        dsimp only at hr5
                        have b5 := bx_below b4 g5
                        have bu5 := bu4.below g5
                        have R5 := R4.below g5
                        have SN5 := SN4.below g5
                        have gg5 := bstep gg4 g5
                        have hM5 := hM4.below g5
                        have hSm := same_eq _ p.1 da p.2.1 dc p.2.2 (od.rl.below g5) (SN5.dat p HPM.out) (by rw [HPG.out.1.len]; have := lonF_le p.1.rem p.1.dlc; omega)
                        clear hRd bu10 R10 S10 gg10 hM10 b10 o4 bu4 ch4 s4 x4 R4 SN4 gg4 hM4 b4 z4 od g5 HX7 HF8 HF9 HFN8 hi7
                        generalize (w4.alloc (.cells rxZ 80)).setRow w4.heap.size (rxV ((p.1, (da, dc)), tm)) = V5 at *
                        generalize w4.heap.size = xb5 at *
                        go_wp2_with (first
                          | (with_reducible refine wpList_loadMW rowF (by simp [Region.wanted, yielded, Act.put]) _ rfl xb5 0 rfl (frV p.1 da dc) hr5 rfl ?_)
                          | (with_reducible refine wpList_loadW rowF (by simp [Region.wanted, yielded, Act.put]) _ rfl fb rfl b5 rfl ?_)
                          | (go_at_call 27; (with_reducible refine hSm.mono ?_); rintro e w6 ⟨rfl, g6⟩))
                        go_roundg (all - (q + 1))
                        case measure => omega
                        case rel => exact ⟨q + 1, l8, x8, by omega, rfl, by go_num, bu5.below g6, R5.below g6, SN5.below g6, HGS4, HX4, HXG4, HF4, HFN4, hM5.below g6, hmb4, bstep gg5 g6⟩
                      · have hF' : FinD lt.2 (qL.map Prod.fst) sent (q + 1) x7.d := HF8.out.skip HSQ.out (by
                          have := HBB.out
                          rw [eq_comm, Bool.or_eq_true, decide_eq_true_eq, HOWN.out, Bool.not_eq_true'] at this
                          exact this)
                        have HF9 := hid hF'
                        clear hF' b10
                        go_wp2_with fail
                        go_roundg (all - (q + 1))
                        case measure => omega
                        case rel => exact ⟨q + 1, l7, x7, by omega, rfl, by go_num, bu10, R10, S10, HGS8, HX7, HXG, HF9, HFN8, hM10, hmb8, gg10⟩
                    · obtain rfl : all = q := by omega
                      obtain ⟨hz1, hz2, hz3⟩ := HF8.out.done (by rw [HSE.out, List.length_map, HSL.out]; exact Nat.le_refl _)
                      have hFl := dvFill_any (bu8.dv x7 (List.mem_of_getElem? HX7.out))
                      rw [hz1, hz2, HXG.out] at hFl
                      have hO := fun (w12 : World) (g : Below wr.heap.size wr w12) => dvOver_any ((bu8.below g).dv x7 (List.mem_of_getElem? HX7.out))
                      rw [hz3, HXG.out] at hO
                      have hnd4 := HB.out.2
                      go_wp2_with (first
                        | (go_at_call 14; (with_reducible refine hFl.mono ?_); rintro e w12 ⟨rfl, g12⟩; have hO12 := hO _ g12)
                        | (go_at_call 15; (with_reducible refine hO12.mono ?_); rintro e w13 ⟨rfl, rfl⟩))
                      go_roundg (nd - (i + 1))
                      case measure => omega
                      case rel => exact ⟨i + 1, l7, by omega, rfl, by go_num, bu8.below g12, R8.below g12, S8.below g12, HGS8, HFN8, bstep gg8 g12⟩
            · obtain rfl : nd = i := by omega
              go_wp2_with (go_at_call 11; (with_reducible refine (awake14_any wr).mono ?_); rintro e w5 ⟨rfl, g5⟩)
              go_ret
              exact ⟨rfl, bstep (bstep g1 gg6) g5⟩
end Go.Proofs.YtajdbimdiodalaaGreat
