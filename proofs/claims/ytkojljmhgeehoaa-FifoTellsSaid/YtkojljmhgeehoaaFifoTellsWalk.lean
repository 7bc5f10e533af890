/-
  The walk of the statement FifoTells: for any room and any operations it returns true, and nothing that was there has changed.
-/
import Derived.Test.YtkojljmhgeehoaaB12f
import Derived.Test.YtkojljmhgeehoaaB12h
import Derived.Test.YtkojljmhgeehoaaCt0
import Derived.Test.YtkojljmhgeehoaaOpen12b
import Derived.Deep.DeepCutAuto
import Derived.Deep.CutBlock
namespace Go.Proofs.Ytkojljmhgeehoaa
open Go.RowKit Go.Sort
set_option linter.unusedVariables false

/-- What is told of a received frame. -/
def strX (x : Rx) : Fr × Int := (x.1.1, x.2)
/-- The fifo and the State beside it are alike, and lie apart. -/
def TeR (w : World) (g s hm R : Nat) (wr : World) : Prop :=
  ∃ a c st S fs fl La lc Ls T, FfO w.heap.size wr g s ⟨R, fs, fl⟩ a c st S ∧ LrO w.heap.size wr La lc Ls T ∧ fs.map strX = Ls.map strX ∧ (∀ x ∈ fs, x.1.1.data.length ≤ 20) ∧
    wr.heap[hm]? = some (.cells (stV La lc Ls R fl) 30 (0, 0)) ∧ w.heap.size ≤ hm ∧ ¬ S hm ∧ ¬ T hm ∧ (∀ k, T k → ¬ S k) ∧ Below w.heap.size w wr

theorem TeR.below {w w1 w2 : World} {g s hm R : Nat} (h : TeR w g s hm R w1) (k : Below w1.heap.size w1 w2) : TeR w g s hm R w2 := by
  obtain ⟨a, c, st, S, fs, fl, La, lc, Ls, T, hF, hL, hst, h20, hbx, hhm, hnS, hnT, hTS, hb⟩ := h
  exact ⟨a, c, st, S, fs, fl, La, lc, Ls, T, hF.below k, hL.below k, hst, h20, bx_below hbx k, hhm, hnS, hnT, hTS, bstep hb k⟩

theorem in_box {W W1 w2 : World} {F F2 : Fr} {da ia : Option Addr} {dc ic G : Nat} {t : Int} (g1 : Below W.heap.size W W1) (i1 : W1.heap[W.heap.size]? = some (.cells (rxV ((F, (da, dc)), t)) 36 (0, 0)))
    (g2 : Below (W1.alloc (.cells #[] 5)).heap.size (W1.alloc (.cells #[] 5)) w2) (o2 : OL bv 5 W.heap.size w2 ia G ic F2.data) (hG2 : F2.data.length = G) (hF2 : F2.id = F.id ∧ F2.ext = F.ext ∧ F2.rem = F.rem ∧ F2.dlc = F.dlc) :
    (w2.setCell ⟨W.heap.size, 4, none⟩ (.slice ia G ic)).heap[W.heap.size]? = some (.cells (rxV ((F2, (ia, ic)), t)) 36 (0, 0)) ∧ w2.cell? ⟨W.heap.size, 4, none⟩ = some (.slice da F.data.length dc) ∧ w2.frozen? ⟨W.heap.size, 4, none⟩ = false ∧
    (∀ q, ia = some q → W.heap.size < q.block ∧ q.block < (w2.setCell ⟨W.heap.size, 4, none⟩ (.slice ia G ic)).heap.size) ∧ OL bv 5 W.heap.size (w2.setCell ⟨W.heap.size, 4, none⟩ (.slice ia G ic)) ia G ic F2.data ∧
    Below W.heap.size W (w2.setCell ⟨W.heap.size, 4, none⟩ (.slice ia G ic)) := by
  have i2 := bx_below (bx_alloc (.cells #[] 5) i1) g2
  have hne : ∀ q, ia = some q → W.heap.size ≠ q.block := fun q hq e => by
    rcases o2.ex with ⟨h0, _⟩ | ⟨gx, cur, hgx, _, hhx, _⟩
    · rw [h0] at hq; cases hq
    · rw [hgx] at hq
      cases hq
      dsimp only at e
      rw [← e, i2] at hhx
      simp at hhx
  refine ⟨?_, (bx6 i2).2.2.2.2.1, bx_thaw i2 4, fun q hq => ⟨?_, ?_⟩, o2.kept fun b hb => Below.heap_setCell _ _ _ _ (Ne.symm (hne _ hb)), (bstep (bnew g1 _) g2).setCell (Nat.le_refl _) _⟩
  · rw [heap_setCell_same w2 W.heap.size 4 _ _ _ i2]
    have e : rxV ((F2, (ia, ic)), t) = #[.int .u32 (F.id : Int), .bool F.ext, .bool F.rem, .int .u8 (F.dlc : Int), .slice ia G ic, .int .i64 t] := by
      show (#[.int .u32 (F2.id : Int), .bool F2.ext, .bool F2.rem, .int .u8 (F2.dlc : Int), .slice ia F2.data.length ic, .int .i64 t] : Array Value) = _
      rw [hF2.1, hF2.2.1, hF2.2.2.1, hF2.2.2.2, hG2]
    rw [e]; rfl
  · have := (o2.ltB hq).2; have := hne q hq; omega
  · rw [sz_set]; exact (o2.ltB hq).1

theorem op_range {w : World} {b : Nat} {o : Op12} (h : w.heap[b]? = some (.cells (opV o) 38 (0, 0))) : w.rangeAt b 1 (rxV o.2).toList := fun j v hj => by
  rw [cell_of_row w b (1 + j) _ _ _ h]
  match j, hj with
  | 0, hj => simpa using hj
  | 1, hj => simpa using hj
  | 2, hj => simpa using hj
  | 3, hj => simpa using hj
  | 4, hj => simpa using hj
  | 5, hj => simpa using hj
  | j + 6, hj => simp at hj

set_option maxRecDepth 100000 in
set_option maxHeartbeats 32000000 in
theorem fifoTells_walk (w : World) (room : Int) (a0 : Option Addr) (n0 c0 : Nat) (os : List Op12) (hroom : -9223372036854775808 ≤ room ∧ room ≤ 9223372036854775807) (ho : OpR w a0 n0 c0 os) (hd : ∀ o ∈ os, o.2.1.1.data.length ≤ 9223372036854775807) (m0 : n0 ≤ 9223372036854775807) :
    Calls Try.prog 3 #[.int .i64 room, .slice a0 n0 c0] w fun e w' => e = .returned (.bool true) ∧ Below w.heap.size w w' := by
  by_cases hw : room < 1 ∨ 256 < room
  · have hN := ffNew_wrong w room hw
    rcases hw with hw | hw
    · clear hd m0
      go_enter Try.func3, Try.ntmps3
      go_wp2_with (first
        | (go_at_call 7; (with_reducible refine hN.mono ?_); rintro e w1 ⟨rfl, rfl⟩)
        | (go_at_call 8; (with_reducible refine (awake12_any _).mono ?_); rintro e w5 ⟨rfl, g5⟩))
      go_ret
      exact ⟨rfl, g5⟩
    · have h1 : ¬ room < 1 := by omega
      clear hd m0
      go_enter Try.func3, Try.ntmps3
      go_wp2_with (first
        | (go_at_call 7; (with_reducible refine hN.mono ?_); rintro e w1 ⟨rfl, rfl⟩)
        | (go_at_call 8; (with_reducible refine (awake12_any _).mono ?_); rintro e w5 ⟨rfl, g5⟩))
      go_ret
      exact ⟨rfl, g5⟩
  · obtain ⟨R, rfl, hR1, hR2⟩ : ∃ R : Nat, room = (R : Int) ∧ 1 ≤ R ∧ R ≤ 256 := ⟨room.toNat, by omega, by omega, by omega⟩
    obtain ⟨L, hmin, hL1, hL2⟩ : ∃ L : Nat, (∀ ts t w', (Builtin.min_ ts t #[.int .i64 (n0 : Int), .int .i64 400]).run Try.prog w' = .ok (.int .i64 (L : Int)) w') ∧ L ≤ n0 ∧ L ≤ 400 := by
      refine ⟨min n0 400, fun ts t w' => ?_, by omega, by omega⟩
      rw [run_min_int2]; congr 2; split <;> omega
    have hNew := ffNew_any w R hR1 hR2
    have i1 : ¬ (R : Int) < 1 := by omega
    have i2 : ¬ (256 : Int) < (R : Int) := by omega
    have HO := hid ho; clear ho hd hw
    go_enter Try.func3, Try.ntmps3
    go_wp2_with (first
      | (go_at_call 7; (with_reducible refine hNew.mono ?_); rintro e w1 ⟨g, s, rfl, h1, g1⟩
         have b1 := heap_alloc_new w1 (.cells stZ 30))
      | (with_reducible refine wpList_storeR rowSt rfl _ _ rfl _ _ rfl rfl b1 rfl rfl (st_ones none 0 [] R false) ?_)
      | (with_reducible refine wpList_cutToK0 elO rfl _ _ rfl _ _ L rfl rfl rfl HO.out.row hL1 ?_; intro a5 hr5))
    obtain ⟨hm, hhm⟩ : ∃ hm, hm = w1.heap.size := ⟨_, rfl⟩
    have hT0 : TeR w g s hm R ((w1.alloc (.cells stZ 30)).setRow hm (stV none 0 [] R false)) := by
      have k : Below w1.heap.size w1 ((w1.alloc (.cells stZ 30)).setRow hm (stV none 0 [] R false)) := below_setRow (bnew0 w1 _) (by omega) _
      refine ⟨_, _, _, _, [], false, none, 0, [], _, h1.below k, LrO.nil _ _, rfl, fun x hx => (by cases hx), by rw [hhm]; exact setRow_heap _ _ _ _ _ _ b1, by rw [hhm]; exact g1.size, fun e => ?_, fun e => e, fun k e => e.elim, bstep g1 k⟩
      have := h1.sL _ e; omega
    rw [← hhm]
    rw [← hhm] at b1
    clear hNew h1 i1 i2 hmin b1 m0
    have hgg := g1.size
    generalize (w1.alloc (.cells stZ 30)).setRow hm (stV none 0 [] R false) = w2 at *
    clear g1 hhm
    go_loopg [47] L (fun gn vi wr => ∃ i : Nat, i ≤ L ∧ gn = L - i ∧ vi = .int .i64 (i : Int) ∧ TeR w g s hm R wr)
    case atStart => exact ⟨0, by omega, by omega, rfl, hT0⟩
    case round =>
      obtain ⟨i, hi, rfl, rfl, hT⟩ := hrel
      clear hT0
      by_cases hlt : i < L
      · obtain ⟨o, hox⟩ : ∃ o, (os.take L)[i]? = some o := ⟨_, List.getElem?_eq_getElem (by rw [hr5.len]; exact hlt)⟩
        have hom : o ∈ os := List.mem_of_mem_take (List.mem_of_getElem? hox)
        have hbel : Below w.heap.size w wr := by obtain ⟨a, c, st, S, fs, fl, La, lc, Ls, T, _, _, _, _, _, _, _, _, _, hb⟩ := hT; exact hb
        obtain ⟨gb, off, rfl, hgb, hrg⟩ := (hr5.below hbel).range hox
        obtain ⟨r, hr, hr4⟩ : ∃ r : Int, (o.1 : Int) % 4 = r ∧ (r = 0 ∨ r = 1 ∨ r = 2 ∨ r = 3) := ⟨_, rfl, by omega⟩
        have b0 := heap_alloc_new wr (.cells #[.int .u8 0, .int .u32 0, .bool false, .bool false, .int .u8 0, .slice none 0 0, .int .i64 0] 38)
        have hdat := HO.out.dat o hom
        clear hox hom
        go_upto_block 2 with (first
          | (with_reducible refine wpList_loadM rowO rfl _ rfl _ _ rfl (opV o) hrg rfl ?_)
          | (with_reducible refine wpList_storeR rowO rfl _ _ rfl _ _ rfl rfl b0 rfl rfl (op_ones _) ?_
             have bW := setRow_heap _ _ _ (opV o) _ _ b0
             have kW : Below wr.heap.size wr ((wr.alloc (.cells #[.int .u8 0, .int .u32 0, .bool false, .bool false, .int .u8 0, .slice none 0 0, .int .i64 0] 38)).setRow wr.heap.size (opV o)) := below_setRow (bnew0 wr _) (Nat.le_refl _) _
             have x0 : ((wr.alloc (.cells #[.int .u8 0, .int .u32 0, .bool false, .bool false, .int .u8 0, .slice none 0 0, .int .i64 0] 38)).setRow wr.heap.size (opV o)).cell? ⟨wr.heap.size, 0, none⟩ = some (.int .u8 (o.1 : Int)) := by rw [cell_of_row _ _ 0 _ _ _ bW]; rfl))
        have hTW : TeR w g s hm R ((wr.alloc (.cells #[.int .u8 0, .int .u32 0, .bool false, .bool false, .int .u8 0, .slice none 0 0, .int .i64 0] 38)).setRow wr.heap.size (opV o)) := TeR.below hT kW
        clear hT hrg hgb hbel b0 kW x0
        have hrow := hr5
        generalize hWE : (wr.alloc (.cells #[.int .u8 0, .int .u32 0, .bool false, .bool false, .int .u8 0, .slice none 0 0, .int .i64 0] 38)).setRow wr.heap.size (opV o) = W at *
        have HWE := hid hWE; clear hWE
        generalize hbE : wr.heap.size = b at *
        have HBE := hid hbE; clear hbE
        rw [hr]
        clear hr
        go_cut [7] (fun v7 wx => v7 = .pointer (some ⟨hm, 0, none⟩) ∧ TeR w g s hm R wx)
        case first =>
          obtain ⟨a, c, st, S, fs, fl, La, lc, Ls, T, hF, hL, hst, h20, hbx, hhm, hnS, hnT, hTS, hb⟩ := hTW
          clear hr5 hrow
          rcases hr4 with rfl | rfl | rfl | rfl
          · obtain ⟨ow, ⟨⟨F, ⟨da, dc⟩⟩, t⟩⟩ := o
            simp only at hdat
            have hmlt : hm < W.heap.size := bx_lt hbx
            have hSlt := hF.sL
            have hTlt := hL.tL
            obtain ⟨G, hmg, hG1, hG20⟩ : ∃ G : Nat, (∀ ts t w', (Builtin.min_ ts t #[.int .i64 (F.data.length : Int), .int .i64 20]).run Try.prog w' = .ok (.int .i64 (G : Int)) w') ∧ G ≤ F.data.length ∧ G ≤ 20 := by
              refine ⟨min F.data.length 20, fun ts t w' => ?_, by omega, by omega⟩
              rw [run_min_int2]; congr 2; split <;> omega
            have hG6 : G ≤ 1000000 := by omega
            obtain ⟨F2, hF2d, hF2e, hG2⟩ : ∃ F2 : Fr, F.data.take G = F2.data ∧ (F2.id = F.id ∧ F2.ext = F.ext ∧ F2.rem = F.rem ∧ F2.dlc = F.dlc) ∧ F2.data.length = G := ⟨⟨F.id, F.ext, F.rem, F.dlc, F.data.take G⟩, rfl, ⟨rfl, rfl, rfl, rfl⟩, by simp; omega⟩
            have hby1 : 1 ≤ 64 := by omega
            have hWw : w.heap.size ≤ W.heap.size := hb.size
            have HG2 := hid hG2
            have hW0 := True.intro
            clear hG2
            have hrX : W.rangeAt b 1 (rxV ((F, (da, dc)), t)).toList := op_range bW
            have b1 := heap_alloc_new W (.cells rxZ 36)
            by_cases hful : fs.length = R
            · have hcon := refPush_full (a := La) (c := lc) (L := Ls)
              go_upto_region 20 with (first
                | (with_reducible refine wpList_loadM rowX rfl _ rfl _ _ rfl (rxV ((F, (da, dc)), t)) hrX rfl ?_)
                | (with_reducible refine wpList_storeR rowX rfl _ _ rfl _ _ rfl rfl b1 rfl rfl (rx_ones ((F, (da, dc)), t)) ?_
                   have g1 : Below W.heap.size W ((W.alloc (.cells rxZ 36)).setRow W.heap.size (rxV ((F, (da, dc)), t))) := below_setRow (bnew0 W _) (Nat.le_refl _) _
                   have i1 := setRow_heap _ _ _ (rxV ((F, (da, dc)), t)) _ _ b1
                   have bo1 := bx_below bW g1
                   clear b1 hrX
                   generalize (W.alloc (.cells rxZ 36)).setRow W.heap.size (rxV ((F, (da, dc)), t)) = W1 at *
                   have z1 : W.heap.size < W1.heap.size := bx_lt i1
                   have x5 : (W1.alloc (.cells #[] 5)).cell? ⟨b, 5, none⟩ = some (.slice da F.data.length dc) := by rw [cell_of_row _ b 5 _ _ _ (bx_alloc _ bo1)]; rfl
                   have gg1 := bnew (bstep hb g1) (.cells #[] 5)
                   have oe := ol_lit bv 5 W.heap.size W1 [] #[] 0 rfl rfl (by omega) (Nat.le_of_lt z1)
                   have hba : W.heap.size ≤ (W1.alloc (.cells #[] 5)).heap.size := by rw [heap_size_alloc]; omega)
                | (with_reducible refine wpList_cutTo0 (f := bv) tY rfl _ _ rfl _ _ G rfl rfl rfl hdat hG1 ?_
                   intro ca hca
                   rw [hF2d] at hca
                   have hca1 := hca.below gg1)
                | (with_reducible refine wpList_app0 (f := bv) tY rfl _ _ rfl rfl oe rfl hca1 hG6 hby1 hba ?_
                   intro w2 ia ic o2 g2 hia
                   obtain ⟨i3, x24, f2, hiaB, o3, g3⟩ := in_box (F2 := F2) g1 i1 g2 o2 HG2.out hF2e
                   have gg3 := bstep hb g3
                   have hF3 := hF.below g3
                   have hL3 := hL.below g3
                   have m3 := bx_below hbx g3
                   clear hF hL hbx bo1 gg1 oe hba hca hca1 g1 i1 z1 x5 hb hF2e o2 g2 hW0)
                | (with_reducible refine wpList_loadR rowX rfl _ rfl _ rfl i3 rfl ?_
                   clear x24 f2
                   generalize w2.setCell ⟨W.heap.size, 4, none⟩ (.slice ia G ic) = W3 at *
                   have b4 := heap_alloc_new W3 (.cells rxZ 36))
                | (with_reducible refine wpList_storeR rowX rfl _ _ rfl _ _ rfl rfl b4 rfl rfl (rx_ones ((F2, (ia, ic)), t)) ?_
                   have g4 : Below W3.heap.size W3 ((W3.alloc (.cells rxZ 36)).setRow W3.heap.size (rxV ((F2, (ia, ic)), t))) := below_setRow (bnew0 W3 _) (Nat.le_refl _) _
                   have i4 := setRow_heap _ _ _ (rxV ((F2, (ia, ic)), t)) _ _ b4
                   clear b4
                   generalize (W3.alloc (.cells rxZ 36)).setRow W3.heap.size (rxV ((F2, (ia, ic)), t)) = W4 at *
                   have z4 : W3.heap.size < W4.heap.size := bx_lt i4
                   have x5 : (W4.alloc (.cells #[] 5)).cell? ⟨W.heap.size, 4, none⟩ = some (.slice ia G ic) := by rw [cell_of_row _ _ 4 _ _ _ (bx_alloc _ (bx_below i3 g4)), ← HG2.out]; rfl
                   have oe2 := ol_lit bv 5 W3.heap.size W4 [] #[] 0 rfl rfl (by omega) (Nat.le_of_lt z4)
                   have hba2 : W3.heap.size ≤ (W4.alloc (.cells #[] 5)).heap.size := by rw [heap_size_alloc]; omega
                   have src2 := ((o3.below g4).alloc (.cells #[] 5)).rl)
                | (with_reducible refine wpList_app0 (f := bv) tY rfl _ _ rfl rfl oe2 rfl src2 hG6 hby1 hba2 ?_
                   intro w5 ka kc o5 g5 hka
                   obtain ⟨i6, x64, f6, hkaB, o6, g6⟩ := in_box (F2 := F2) g4 i4 g5 o5 HG2.out ⟨rfl, rfl, rfl, rfl⟩
                   have gg6 := bstep gg3 g6
                   have hF6 := hF3.below g6
                   have hL6 := hL3.below g6
                   have m6 := bx_below m3 g6
                   have oI6 := o3.below g6
                   have iI6 := bx_below i3 g6
                   rw [show (rxV ((F2, (ia, ic)), t)) = rxV ((F2, (ia, ic)), t) from rfl] at i4
                   rw [show (Value.slice ia F2.data.length ic) = .slice ia G ic by rw [HG2.out]] at x64))
              generalize w5.setCell ⟨W3.heap.size, 4, none⟩ (.slice ka G kc) = W6 at *
              have hgs : w.heap.size ≤ W3.heap.size := gg3.size
              have hWW : W.heap.size ≤ W3.heap.size := g3.size
              have hW36 : W3.heap.size < W6.heap.size := bx_lt i6
              have hLl : Ls.length = fs.length := by rw [← List.length_map (f := strX), ← hst, List.length_map]
              clear i4 g4 z4 x5 oe2 hba2 src2 o5 g5 x64 f6 hF3 hL3 m3 o3 i3
              have hcon := refPush_full (a := La) (c := lc) (L := Ls) W6 R fl ((F2, (ka, kc)), t) (by omega)
              clear hkaB o6
              go_upto_region 22 with (first
                | (with_reducible refine wpList_loadR rowSt rfl _ rfl _ rfl m6 rfl ?_)
                | (with_reducible refine wpList_loadR rowX rfl _ rfl _ rfl i6 rfl ?_)
                | (go_at_call 9; (with_reducible refine hcon.mono ?_); rintro e w7 ⟨rfl, g7⟩
                   have hL7 := hL6.below g7
                   have z7 := g7.size
                   have n7 := heap_alloc_new w7 (.cells stZ 30))
                | (with_reducible refine wpList_storeR rowSt rfl _ _ rfl _ _ rfl rfl n7 rfl rfl (st_ones La lc Ls R true) ?_
                   have n8 := setRow_heap _ _ _ (stV La lc Ls R true) _ _ n7
                   have g8 : Below w7.heap.size w7 ((w7.alloc (.cells stZ 30)).setRow w7.heap.size (stV La lc Ls R true)) := below_setRow (bnew0 w7 _) (Nat.le_refl _) _
                   have hF8 := (hF6.below g7).below g8
                   have hL8 := hL7.below g8
                   have m8 := bx_below (bx_below m6 g7) g8
                   have oI8 := (oI6.below g7).below g8
                   have iI8 := bx_below (bx_below iI6 g7) g8
                   have gg8 := bstep (bstep gg6 g7) g8
                   clear n7 hF6 hL6 hL7 m6 oI6 iI6 gg6 i6 hcon
                   generalize (w7.alloc (.cells stZ 30)).setRow w7.heap.size (stV La lc Ls R true) = W8 at *)
                | (with_reducible refine wpList_loadR rowSt rfl _ rfl _ rfl n8 rfl ?_)
                | (with_reducible refine wpList_storeR rowSt rfl _ _ rfl _ _ rfl rfl m8 rfl rfl (st_ones La lc Ls R true) ?_
                   have k9 : Ch (fun b => b = hm) W8 (W8.setRow hm (stV La lc Ls R true)) := Ch.setRow (S := fun b => b = hm) (Ch.refl _ W8) (.inl rfl) _
                   have hF9 := hF8.ch k9 (fun b hb e => hnS (e ▸ hb))
                   have hL9 := hL8.ch k9 (fun b hb e => hnT (e ▸ hb))
                   have m9 := setRow_heap _ _ _ (stV La lc Ls R true) _ _ m8
                   have iI9 := k9.bx iI8 (by omega)
                   have oI9 := oI8.ch k9 (fun q hq e => by have := (hiaB q hq).1; omega)
                   have gg9 := k9.below gg8 (Nat.le_refl _) (fun b hb => by rw [hb]; exact hhm)
                   have z9 : W6.heap.size ≤ (W8.setRow hm (stV La lc Ls R true)).heap.size := by have := k9.size; have := g8.size; omega
                   clear hF8 hL8 m8 oI8 iI8 gg8 n8 k9 g8 g7 z7
                   generalize W8.setRow hm (stV La lc Ls R true) = W9 at *))
              have z312 : W.heap.size < W9.heap.size := by omega
              have hiaS : ∀ q, ia = some q → ¬ S q.block := fun q hq e => by have := hSlt _ e; have := (hiaB q hq).1; omega
              have hiS : ¬ S W.heap.size := fun e => by have := hSlt _ e; omega
              have hpu := ffPush_full hF9 (rxV ((F2, (ia, ic)), t)) (by show fs.length = R; exact hful)
              go_upto_region 24 with (first
                | (with_reducible refine wpList_loadR rowX rfl _ rfl _ rfl iI9 rfl ?_)
                | (go_at_call 10; (with_reducible refine hpu.mono ?_); rintro e w10 ⟨rfl, h10, k10⟩))
              have hL10 := hL9.ch k10 hTS
              have m10 := k10.bx m9 hnS
              have iI10 := k10.bx iI9 hiS
              have oI10 := oI9.ch k10 hiaS
              have gg10 := k10.below gg9 (Nat.le_refl _) hF9.sB
              have z910 := k10.size
              clear hpu hF9 hL9 m9 oI9 iI9 gg9
              have x4 := (bx6 iI10).2.2.2.2.1
              rw [show (Value.slice ia F2.data.length ic) = .slice ia G ic by rw [HG2.out]] at x4
              go_wp2
              clear x4
              obtain ⟨w20, hw20⟩ : ∃ w20, w20 = w10 := ⟨_, rfl⟩
              rw [← hw20]
              rw [← hw20] at iI10 h10 hL10 oI10 m10 gg10 k10 z910
              clear hw20
              go_loopg [104] G (fun gn vi wr => ∃ (k : Nat) (l' : List UInt8), k ≤ G ∧ gn = G - k ∧ vi = .int .i64 (k : Int) ∧ OL bv 5 W.heap.size wr ia G ic l' ∧ Ch (fun b => ∃ q, ia = some q ∧ q.block = b) w20 wr)
              case atStart => exact ⟨0, F2.data, by omega, by omega, rfl, oI10, Ch.refl _ _⟩
              case round =>
                obtain ⟨k, l', hk, rfl, rfl, hO, kD⟩ := hrel
                have bx4 := kD.bx iI10 (fun ⟨q, e1, e2⟩ => by have := (hiaB q e1).1; omega)
                have x4 := (bx6 bx4).2.2.2.2.1
                rw [show (Value.slice ia F2.data.length ic) = .slice ia G ic by rw [HG2.out]] at x4
                by_cases hkl : k < G
                · rcases hO.ex with ⟨_, h0, _⟩ | ⟨gx, cur, hxa, hBx, hhx, hcx⟩
                  · omega
                  · obtain ⟨v, hv⟩ : ∃ v, l'[k]? = some v := ⟨_, List.getElem?_eq_getElem (by rw [hO.len]; exact hkl)⟩
                    rw [hxa] at x4
                    have hO2 := hO
                    rw [hxa] at hO2
                    obtain ⟨c1, c2⟩ := hO2.cellAt hv
                    unfold bv at c1
                    obtain ⟨z, hz⟩ : ∃ z : UInt8, ((v.toNat : Int) + 1) % 256 = (z.toNat : Int) := ⟨v + 1, by rw [UInt8.toNat_add]; show _ = (((v.toNat + 1) % 256 : Nat) : Int); omega⟩
                    have hO3 : OL bv 5 W.heap.size (wr.setCell ⟨gx, k, none⟩ (.int .u8 (z.toNat : Int))) (some ⟨gx, 0, none⟩) G ic (l'.set k z) := hO2.set z
                    have kD3 : Ch (fun b => ∃ q, ia = some q ∧ q.block = b) w20 (wr.setCell ⟨gx, k, none⟩ (.int .u8 (z.toNat : Int))) := kD.setCell (p := ⟨gx, k, none⟩) (.inl ⟨_, hxa, rfl⟩) _
                    rw [← hxa] at hO3
                    have HXA := hid hxa
                    clear hxa hhx hv bx4 hO hO2 oI10
                    go_wp2
                    go_roundg (G - (k + 1))
                    case measure => omega
                    case rel => exact ⟨k + 1, _, by omega, rfl, by go_num, hO3, kD3⟩
                · obtain rfl : G = k := by omega
                  go_wp2
                  go_meet
                  exact ⟨rfl, a, c, st, S, fs, true, La, lc, Ls, T, h10.ch kD (fun b hb ⟨q, e1, e2⟩ => hiaS q e1 (by rw [e2]; exact hb)), hL10.ch kD (fun b hb ⟨q, e1, e2⟩ => by have := hTlt b hb; have := (hiaB q e1).1; omega), hst, h20, kD.bx m10 (fun ⟨q, e1, e2⟩ => by have := (hiaB q e1).1; omega), hhm, hnS, hnT, hTS, kD.below gg10 (Nat.le_refl _) (fun b ⟨q, e1, e2⟩ => by have := (hiaB q e1).1; have := hWw; omega)⟩
            · have hlt2 : fs.length < R := by have := hF.le; have h9 : fs.length ≤ R := this; omega
              go_upto_region 20 with (first
                | (with_reducible refine wpList_loadM rowX rfl _ rfl _ _ rfl (rxV ((F, (da, dc)), t)) hrX rfl ?_)
                | (with_reducible refine wpList_storeR rowX rfl _ _ rfl _ _ rfl rfl b1 rfl rfl (rx_ones ((F, (da, dc)), t)) ?_
                   have g1 : Below W.heap.size W ((W.alloc (.cells rxZ 36)).setRow W.heap.size (rxV ((F, (da, dc)), t))) := below_setRow (bnew0 W _) (Nat.le_refl _) _
                   have i1 := setRow_heap _ _ _ (rxV ((F, (da, dc)), t)) _ _ b1
                   have bo1 := bx_below bW g1
                   clear b1 hrX
                   generalize (W.alloc (.cells rxZ 36)).setRow W.heap.size (rxV ((F, (da, dc)), t)) = W1 at *
                   have z1 : W.heap.size < W1.heap.size := bx_lt i1
                   have x5 : (W1.alloc (.cells #[] 5)).cell? ⟨b, 5, none⟩ = some (.slice da F.data.length dc) := by rw [cell_of_row _ b 5 _ _ _ (bx_alloc _ bo1)]; rfl
                   have gg1 := bnew (bstep hb g1) (.cells #[] 5)
                   have oe := ol_lit bv 5 W.heap.size W1 [] #[] 0 rfl rfl (by omega) (Nat.le_of_lt z1)
                   have hba : W.heap.size ≤ (W1.alloc (.cells #[] 5)).heap.size := by rw [heap_size_alloc]; omega)
                | (with_reducible refine wpList_cutTo0 (f := bv) tY rfl _ _ rfl _ _ G rfl rfl rfl hdat hG1 ?_
                   intro ca hca
                   rw [hF2d] at hca
                   have hca1 := hca.below gg1)
                | (with_reducible refine wpList_app0 (f := bv) tY rfl _ _ rfl rfl oe rfl hca1 hG6 hby1 hba ?_
                   intro w2 ia ic o2 g2 hia
                   obtain ⟨i3, x24, f2, hiaB, o3, g3⟩ := in_box (F2 := F2) g1 i1 g2 o2 HG2.out hF2e
                   have gg3 := bstep hb g3
                   have hF3 := hF.below g3
                   have hL3 := hL.below g3
                   have m3 := bx_below hbx g3
                   clear hF hL hbx bo1 gg1 oe hba hca hca1 g1 i1 z1 x5 hb hF2e o2 g2 hW0)
                | (with_reducible refine wpList_loadR rowX rfl _ rfl _ rfl i3 rfl ?_
                   clear x24 f2
                   generalize w2.setCell ⟨W.heap.size, 4, none⟩ (.slice ia G ic) = W3 at *
                   have b4 := heap_alloc_new W3 (.cells rxZ 36))
                | (with_reducible refine wpList_storeR rowX rfl _ _ rfl _ _ rfl rfl b4 rfl rfl (rx_ones ((F2, (ia, ic)), t)) ?_
                   have g4 : Below W3.heap.size W3 ((W3.alloc (.cells rxZ 36)).setRow W3.heap.size (rxV ((F2, (ia, ic)), t))) := below_setRow (bnew0 W3 _) (Nat.le_refl _) _
                   have i4 := setRow_heap _ _ _ (rxV ((F2, (ia, ic)), t)) _ _ b4
                   clear b4
                   generalize (W3.alloc (.cells rxZ 36)).setRow W3.heap.size (rxV ((F2, (ia, ic)), t)) = W4 at *
                   have z4 : W3.heap.size < W4.heap.size := bx_lt i4
                   have x5 : (W4.alloc (.cells #[] 5)).cell? ⟨W.heap.size, 4, none⟩ = some (.slice ia G ic) := by rw [cell_of_row _ _ 4 _ _ _ (bx_alloc _ (bx_below i3 g4)), ← HG2.out]; rfl
                   have oe2 := ol_lit bv 5 W3.heap.size W4 [] #[] 0 rfl rfl (by omega) (Nat.le_of_lt z4)
                   have hba2 : W3.heap.size ≤ (W4.alloc (.cells #[] 5)).heap.size := by rw [heap_size_alloc]; omega
                   have src2 := ((o3.below g4).alloc (.cells #[] 5)).rl)
                | (with_reducible refine wpList_app0 (f := bv) tY rfl _ _ rfl rfl oe2 rfl src2 hG6 hby1 hba2 ?_
                   intro w5 ka kc o5 g5 hka
                   obtain ⟨i6, x64, f6, hkaB, o6, g6⟩ := in_box (F2 := F2) g4 i4 g5 o5 HG2.out ⟨rfl, rfl, rfl, rfl⟩
                   have gg6 := bstep gg3 g6
                   have hF6 := hF3.below g6
                   have hL6 := hL3.below g6
                   have m6 := bx_below m3 g6
                   have oI6 := o3.below g6
                   have iI6 := bx_below i3 g6
                   rw [show (rxV ((F2, (ia, ic)), t)) = rxV ((F2, (ia, ic)), t) from rfl] at i4
                   rw [show (Value.slice ia F2.data.length ic) = .slice ia G ic by rw [HG2.out]] at x64))
              generalize w5.setCell ⟨W3.heap.size, 4, none⟩ (.slice ka G kc) = W6 at *
              have hgs : w.heap.size ≤ W3.heap.size := gg3.size
              have hWW : W.heap.size ≤ W3.heap.size := g3.size
              have hW36 : W3.heap.size < W6.heap.size := bx_lt i6
              have hLl : Ls.length = fs.length := by rw [← List.length_map (f := strX), ← hst, List.length_map]
              clear i4 g4 z4 x5 oe2 hba2 src2 o5 g5 x64 f6 hF3 hL3 m3 o3 i3
              have hcon := refPush_any W6 R fl ((F2, (ka, kc)), t) hL6 gg6.size (by omega) (by omega) (by show RL bv W6 ka F2.data.length kc F2.data; rw [HG2.out]; exact o6.rl) (fun q hq => ⟨by have := (hkaB q hq).1; omega, (hkaB q hq).2⟩)
              go_upto_region 22 with (first
                | (with_reducible refine wpList_loadR rowSt rfl _ rfl _ rfl m6 rfl ?_)
                | (with_reducible refine wpList_loadR rowX rfl _ rfl _ rfl i6 rfl ?_)
                | (go_at_call 9; (with_reducible refine hcon.mono ?_); rintro e w7 ⟨L7a, L7c, T7, rfl, hL7, g7, hT7⟩
                   have z7 := g7.size
                   have n7 := heap_alloc_new w7 (.cells stZ 30))
                | (with_reducible refine wpList_storeR rowSt rfl _ _ rfl _ _ rfl rfl n7 rfl rfl (st_ones L7a L7c (Ls ++ [((F2, (ka, kc)), t)]) R fl) ?_
                   have n8 := setRow_heap _ _ _ (stV L7a L7c (Ls ++ [((F2, (ka, kc)), t)]) R fl) _ _ n7
                   have g8 : Below w7.heap.size w7 ((w7.alloc (.cells stZ 30)).setRow w7.heap.size (stV L7a L7c (Ls ++ [((F2, (ka, kc)), t)]) R fl)) := below_setRow (bnew0 w7 _) (Nat.le_refl _) _
                   have hF8 := (hF6.below g7).below g8
                   have hL8 := hL7.below g8
                   have m8 := bx_below (bx_below m6 g7) g8
                   have oI8 := (oI6.below g7).below g8
                   have iI8 := bx_below (bx_below iI6 g7) g8
                   have gg8 := bstep (bstep gg6 g7) g8
                   clear n7 hF6 hL6 hL7 m6 oI6 iI6 gg6 i6 hcon
                   generalize (w7.alloc (.cells stZ 30)).setRow w7.heap.size (stV L7a L7c (Ls ++ [((F2, (ka, kc)), t)]) R fl) = W8 at *)
                | (with_reducible refine wpList_loadR rowSt rfl _ rfl _ rfl n8 rfl ?_)
                | (with_reducible refine wpList_storeR rowSt rfl _ _ rfl _ _ rfl rfl m8 rfl rfl (st_ones L7a L7c (Ls ++ [((F2, (ka, kc)), t)]) R fl) ?_
                   have k9 : Ch (fun b => b = hm) W8 (W8.setRow hm (stV L7a L7c (Ls ++ [((F2, (ka, kc)), t)]) R fl)) := Ch.setRow (S := fun b => b = hm) (Ch.refl _ W8) (.inl rfl) _
                   have hF9 := hF8.ch k9 (fun b hb e => hnS (e ▸ hb))
                   have hnT7 : ¬ T7 hm := fun e => by
                     rcases hT7 _ e with e | ⟨q, e1, e2⟩ | e
                     · exact hnT e
                     · have := (hkaB q e1).1; omega
                     · omega
                   have hL9 := hL8.ch k9 (fun b hb e => hnT7 (e ▸ hb))
                   have m9 := setRow_heap _ _ _ (stV L7a L7c (Ls ++ [((F2, (ka, kc)), t)]) R fl) _ _ m8
                   have iI9 := k9.bx iI8 (by omega)
                   have oI9 := oI8.ch k9 (fun q hq e => by have := (hiaB q hq).1; omega)
                   have gg9 := k9.below gg8 (Nat.le_refl _) (fun b hb => by rw [hb]; exact hhm)
                   have z9 : W6.heap.size ≤ (W8.setRow hm (stV L7a L7c (Ls ++ [((F2, (ka, kc)), t)]) R fl)).heap.size := by have := k9.size; have := g8.size; omega
                   clear hF8 hL8 m8 oI8 iI8 gg8 n8 k9 g8 g7 z7
                   generalize W8.setRow hm (stV L7a L7c (Ls ++ [((F2, (ka, kc)), t)]) R fl) = W9 at *))
              have z312 : W.heap.size < W9.heap.size := by omega
              have hiaS : ∀ q, ia = some q → ¬ S q.block := fun q hq e => by have := hSlt _ e; have := (hiaB q hq).1; omega
              have hiS : ¬ S W.heap.size := fun e => by have := hSlt _ e; omega
              have hpu := ffPush_any hF9 F2 t ia ic hlt2 (fun w' kk => by rw [HG2.out]; exact (oI9.ch kk hiaS).rl) (by rw [HG2.out]; exact hG6)
              go_upto_region 24 with (first
                | (with_reducible refine wpList_loadR rowX rfl _ rfl _ rfl iI9 rfl ?_)
                | (go_at_call 10; (with_reducible refine hpu.mono ?_); rintro e w10 ⟨a10, c10, st10, S10, da10, dc10, rfl, h10, k10, s10⟩))
              have hTS7 : ∀ k, T7 k → ¬ S k := fun k hk e => by
                rcases hT7 _ hk with h | ⟨q, e1, e2⟩ | h
                · exact hTS k h e
                · have := (hkaB q e1).1; have := hSlt _ e; omega
                · have := hSlt _ e; omega
              have hL10 := hL9.ch k10 hTS7
              have m10 := k10.bx m9 hnS
              have hm9 : hm < W9.heap.size := bx_lt m9
              have hL9t := hL9.tL
              have iI10 := k10.bx iI9 hiS
              have oI10 := oI9.ch k10 hiaS
              have gg10 := k10.below gg9 (Nat.le_refl _) hF9.sB
              have z910 := k10.size
              clear hpu hF9 hL9 m9 oI9 iI9 gg9
              have x4 := (bx6 iI10).2.2.2.2.1
              rw [show (Value.slice ia F2.data.length ic) = .slice ia G ic by rw [HG2.out]] at x4
              go_wp2
              clear x4
              obtain ⟨w20, hw20⟩ : ∃ w20, w20 = w10 := ⟨_, rfl⟩
              rw [← hw20]
              rw [← hw20] at iI10 h10 hL10 oI10 m10 gg10 k10 z910
              clear hw20
              go_loopg [104] G (fun gn vi wr => ∃ (k : Nat) (l' : List UInt8), k ≤ G ∧ gn = G - k ∧ vi = .int .i64 (k : Int) ∧ OL bv 5 W.heap.size wr ia G ic l' ∧ Ch (fun b => ∃ q, ia = some q ∧ q.block = b) w20 wr)
              case atStart => exact ⟨0, F2.data, by omega, by omega, rfl, oI10, Ch.refl _ _⟩
              case round =>
                obtain ⟨k, l', hk, rfl, rfl, hO, kD⟩ := hrel
                have bx4 := kD.bx iI10 (fun ⟨q, e1, e2⟩ => by have := (hiaB q e1).1; omega)
                have x4 := (bx6 bx4).2.2.2.2.1
                rw [show (Value.slice ia F2.data.length ic) = .slice ia G ic by rw [HG2.out]] at x4
                by_cases hkl : k < G
                · rcases hO.ex with ⟨_, h0, _⟩ | ⟨gx, cur, hxa, hBx, hhx, hcx⟩
                  · omega
                  · obtain ⟨v, hv⟩ : ∃ v, l'[k]? = some v := ⟨_, List.getElem?_eq_getElem (by rw [hO.len]; exact hkl)⟩
                    rw [hxa] at x4
                    have hO2 := hO
                    rw [hxa] at hO2
                    obtain ⟨c1, c2⟩ := hO2.cellAt hv
                    unfold bv at c1
                    obtain ⟨z, hz⟩ : ∃ z : UInt8, ((v.toNat : Int) + 1) % 256 = (z.toNat : Int) := ⟨v + 1, by rw [UInt8.toNat_add]; show _ = (((v.toNat + 1) % 256 : Nat) : Int); omega⟩
                    have hO3 : OL bv 5 W.heap.size (wr.setCell ⟨gx, k, none⟩ (.int .u8 (z.toNat : Int))) (some ⟨gx, 0, none⟩) G ic (l'.set k z) := hO2.set z
                    have kD3 : Ch (fun b => ∃ q, ia = some q ∧ q.block = b) w20 (wr.setCell ⟨gx, k, none⟩ (.int .u8 (z.toNat : Int))) := kD.setCell (p := ⟨gx, k, none⟩) (.inl ⟨_, hxa, rfl⟩) _
                    rw [← hxa] at hO3
                    have HXA := hid hxa
                    clear hxa hhx hv bx4 hO hO2 oI10
                    go_wp2
                    go_roundg (G - (k + 1))
                    case measure => omega
                    case rel => exact ⟨k + 1, _, by omega, rfl, by go_num, hO3, kD3⟩
                · obtain rfl : G = k := by omega
                  go_wp2
                  go_meet
                  have hnT7 : ¬ T7 hm := fun e => by
                    rcases hT7 _ e with e | ⟨q, e1, e2⟩ | e
                    · exact hnT e
                    · have := (hkaB q e1).1; omega
                    · omega
                  refine ⟨rfl, a10, c10, st10, S10, _, fl, L7a, L7c, _, T7, h10.ch kD (fun b hb ⟨q, e1, e2⟩ => ?_), hL10.ch kD (fun b hb ⟨q, e1, e2⟩ => ?_), ?_, fun x hx => ?_, kD.bx m10 (fun ⟨q, e1, e2⟩ => by have := (hiaB q e1).1; omega), hhm, fun e => ?_, hnT7, fun k hk e => ?_, kD.below gg10 (Nat.le_refl _) (fun b ⟨q, e1, e2⟩ => by have := (hiaB q e1).1; have := hWw; omega)⟩
                  · rcases s10 _ hb with h | h
                    · exact hiaS q e1 (by rw [e2]; exact h)
                    · have := (hiaB q e1).2; omega
                  · rcases hT7 _ hb with h | ⟨q', e1', e2'⟩ | h
                    · have := hTlt b h; have := (hiaB q e1).1; omega
                    · have := (hkaB q' e1').1; have := (hiaB q e1).2; omega
                    · have := (hiaB q e1).2; omega
                  · show (fs ++ [((F2, (da10, dc10)), t)]).map strX = (Ls ++ [((F2, (ka, kc)), t)]).map strX
                    rw [List.map_append, List.map_append, hst]; rfl
                  · rcases List.mem_append.1 hx with hx | hx
                    · exact h20 x hx
                    · simp at hx; subst hx; show F2.data.length ≤ 20; rw [HG2.out]; exact hG20
                  · rcases s10 _ e with h | h
                    · exact hnS h
                    · omega
                  · rcases s10 _ e with h | h
                    · exact hTS7 k hk h
                    · have := hL9t k hk; omega
          · obtain ⟨ow, ⟨⟨F, ⟨da, dc⟩⟩, t⟩⟩ := o
            simp only at hdat
            have hmlt : hm < W.heap.size := bx_lt hbx
            have hSlt := hF.sL
            have hTlt := hL.tL
            obtain ⟨G, hmg, hG1, hG20⟩ : ∃ G : Nat, (∀ ts t w', (Builtin.min_ ts t #[.int .i64 (F.data.length : Int), .int .i64 20]).run Try.prog w' = .ok (.int .i64 (G : Int)) w') ∧ G ≤ F.data.length ∧ G ≤ 20 := by
              refine ⟨min F.data.length 20, fun ts t w' => ?_, by omega, by omega⟩
              rw [run_min_int2]; congr 2; split <;> omega
            have hG6 : G ≤ 1000000 := by omega
            obtain ⟨F2, hF2d, hF2e, hG2⟩ : ∃ F2 : Fr, F.data.take G = F2.data ∧ (F2.id = F.id ∧ F2.ext = F.ext ∧ F2.rem = F.rem ∧ F2.dlc = F.dlc) ∧ F2.data.length = G := ⟨⟨F.id, F.ext, F.rem, F.dlc, F.data.take G⟩, rfl, ⟨rfl, rfl, rfl, rfl⟩, by simp; omega⟩
            have hby1 : 1 ≤ 64 := by omega
            have hWw : w.heap.size ≤ W.heap.size := hb.size
            have HG2 := hid hG2
            have hW0 := True.intro
            clear hG2
            have hrX : W.rangeAt b 1 (rxV ((F, (da, dc)), t)).toList := op_range bW
            have b1 := heap_alloc_new W (.cells rxZ 36)
            by_cases hful : fs.length = R
            · have hcon := refPush_full (a := La) (c := lc) (L := Ls)
              go_upto_region 20 with (first
                | (with_reducible refine wpList_loadM rowX rfl _ rfl _ _ rfl (rxV ((F, (da, dc)), t)) hrX rfl ?_)
                | (with_reducible refine wpList_storeR rowX rfl _ _ rfl _ _ rfl rfl b1 rfl rfl (rx_ones ((F, (da, dc)), t)) ?_
                   have g1 : Below W.heap.size W ((W.alloc (.cells rxZ 36)).setRow W.heap.size (rxV ((F, (da, dc)), t))) := below_setRow (bnew0 W _) (Nat.le_refl _) _
                   have i1 := setRow_heap _ _ _ (rxV ((F, (da, dc)), t)) _ _ b1
                   have bo1 := bx_below bW g1
                   clear b1 hrX
                   generalize (W.alloc (.cells rxZ 36)).setRow W.heap.size (rxV ((F, (da, dc)), t)) = W1 at *
                   have z1 : W.heap.size < W1.heap.size := bx_lt i1
                   have x5 : (W1.alloc (.cells #[] 5)).cell? ⟨b, 5, none⟩ = some (.slice da F.data.length dc) := by rw [cell_of_row _ b 5 _ _ _ (bx_alloc _ bo1)]; rfl
                   have gg1 := bnew (bstep hb g1) (.cells #[] 5)
                   have oe := ol_lit bv 5 W.heap.size W1 [] #[] 0 rfl rfl (by omega) (Nat.le_of_lt z1)
                   have hba : W.heap.size ≤ (W1.alloc (.cells #[] 5)).heap.size := by rw [heap_size_alloc]; omega)
                | (with_reducible refine wpList_cutTo0 (f := bv) tY rfl _ _ rfl _ _ G rfl rfl rfl hdat hG1 ?_
                   intro ca hca
                   rw [hF2d] at hca
                   have hca1 := hca.below gg1)
                | (with_reducible refine wpList_app0 (f := bv) tY rfl _ _ rfl rfl oe rfl hca1 hG6 hby1 hba ?_
                   intro w2 ia ic o2 g2 hia
                   obtain ⟨i3, x24, f2, hiaB, o3, g3⟩ := in_box (F2 := F2) g1 i1 g2 o2 HG2.out hF2e
                   have gg3 := bstep hb g3
                   have hF3 := hF.below g3
                   have hL3 := hL.below g3
                   have m3 := bx_below hbx g3
                   clear hF hL hbx bo1 gg1 oe hba hca hca1 g1 i1 z1 x5 hb hF2e o2 g2 hW0)
                | (with_reducible refine wpList_loadR rowX rfl _ rfl _ rfl i3 rfl ?_
                   clear x24 f2
                   generalize w2.setCell ⟨W.heap.size, 4, none⟩ (.slice ia G ic) = W3 at *
                   have b4 := heap_alloc_new W3 (.cells rxZ 36))
                | (with_reducible refine wpList_storeR rowX rfl _ _ rfl _ _ rfl rfl b4 rfl rfl (rx_ones ((F2, (ia, ic)), t)) ?_
                   have g4 : Below W3.heap.size W3 ((W3.alloc (.cells rxZ 36)).setRow W3.heap.size (rxV ((F2, (ia, ic)), t))) := below_setRow (bnew0 W3 _) (Nat.le_refl _) _
                   have i4 := setRow_heap _ _ _ (rxV ((F2, (ia, ic)), t)) _ _ b4
                   clear b4
                   generalize (W3.alloc (.cells rxZ 36)).setRow W3.heap.size (rxV ((F2, (ia, ic)), t)) = W4 at *
                   have z4 : W3.heap.size < W4.heap.size := bx_lt i4
                   have x5 : (W4.alloc (.cells #[] 5)).cell? ⟨W.heap.size, 4, none⟩ = some (.slice ia G ic) := by rw [cell_of_row _ _ 4 _ _ _ (bx_alloc _ (bx_below i3 g4)), ← HG2.out]; rfl
                   have oe2 := ol_lit bv 5 W3.heap.size W4 [] #[] 0 rfl rfl (by omega) (Nat.le_of_lt z4)
                   have hba2 : W3.heap.size ≤ (W4.alloc (.cells #[] 5)).heap.size := by rw [heap_size_alloc]; omega
                   have src2 := ((o3.below g4).alloc (.cells #[] 5)).rl)
                | (with_reducible refine wpList_app0 (f := bv) tY rfl _ _ rfl rfl oe2 rfl src2 hG6 hby1 hba2 ?_
                   intro w5 ka kc o5 g5 hka
                   obtain ⟨i6, x64, f6, hkaB, o6, g6⟩ := in_box (F2 := F2) g4 i4 g5 o5 HG2.out ⟨rfl, rfl, rfl, rfl⟩
                   have gg6 := bstep gg3 g6
                   have hF6 := hF3.below g6
                   have hL6 := hL3.below g6
                   have m6 := bx_below m3 g6
                   have oI6 := o3.below g6
                   have iI6 := bx_below i3 g6
                   rw [show (rxV ((F2, (ia, ic)), t)) = rxV ((F2, (ia, ic)), t) from rfl] at i4
                   rw [show (Value.slice ia F2.data.length ic) = .slice ia G ic by rw [HG2.out]] at x64))
              generalize w5.setCell ⟨W3.heap.size, 4, none⟩ (.slice ka G kc) = W6 at *
              have hgs : w.heap.size ≤ W3.heap.size := gg3.size
              have hWW : W.heap.size ≤ W3.heap.size := g3.size
              have hW36 : W3.heap.size < W6.heap.size := bx_lt i6
              have hLl : Ls.length = fs.length := by rw [← List.length_map (f := strX), ← hst, List.length_map]
              clear i4 g4 z4 x5 oe2 hba2 src2 o5 g5 x64 f6 hF3 hL3 m3 o3 i3
              have hcon := refPush_full (a := La) (c := lc) (L := Ls) W6 R fl ((F2, (ka, kc)), t) (by omega)
              clear hkaB o6
              go_upto_region 22 with (first
                | (with_reducible refine wpList_loadR rowSt rfl _ rfl _ rfl m6 rfl ?_)
                | (with_reducible refine wpList_loadR rowX rfl _ rfl _ rfl i6 rfl ?_)
                | (go_at_call 9; (with_reducible refine hcon.mono ?_); rintro e w7 ⟨rfl, g7⟩
                   have hL7 := hL6.below g7
                   have z7 := g7.size
                   have n7 := heap_alloc_new w7 (.cells stZ 30))
                | (with_reducible refine wpList_storeR rowSt rfl _ _ rfl _ _ rfl rfl n7 rfl rfl (st_ones La lc Ls R true) ?_
                   have n8 := setRow_heap _ _ _ (stV La lc Ls R true) _ _ n7
                   have g8 : Below w7.heap.size w7 ((w7.alloc (.cells stZ 30)).setRow w7.heap.size (stV La lc Ls R true)) := below_setRow (bnew0 w7 _) (Nat.le_refl _) _
                   have hF8 := (hF6.below g7).below g8
                   have hL8 := hL7.below g8
                   have m8 := bx_below (bx_below m6 g7) g8
                   have oI8 := (oI6.below g7).below g8
                   have iI8 := bx_below (bx_below iI6 g7) g8
                   have gg8 := bstep (bstep gg6 g7) g8
                   clear n7 hF6 hL6 hL7 m6 oI6 iI6 gg6 i6 hcon
                   generalize (w7.alloc (.cells stZ 30)).setRow w7.heap.size (stV La lc Ls R true) = W8 at *)
                | (with_reducible refine wpList_loadR rowSt rfl _ rfl _ rfl n8 rfl ?_)
                | (with_reducible refine wpList_storeR rowSt rfl _ _ rfl _ _ rfl rfl m8 rfl rfl (st_ones La lc Ls R true) ?_
                   have k9 : Ch (fun b => b = hm) W8 (W8.setRow hm (stV La lc Ls R true)) := Ch.setRow (S := fun b => b = hm) (Ch.refl _ W8) (.inl rfl) _
                   have hF9 := hF8.ch k9 (fun b hb e => hnS (e ▸ hb))
                   have hL9 := hL8.ch k9 (fun b hb e => hnT (e ▸ hb))
                   have m9 := setRow_heap _ _ _ (stV La lc Ls R true) _ _ m8
                   have iI9 := k9.bx iI8 (by omega)
                   have oI9 := oI8.ch k9 (fun q hq e => by have := (hiaB q hq).1; omega)
                   have gg9 := k9.below gg8 (Nat.le_refl _) (fun b hb => by rw [hb]; exact hhm)
                   have z9 : W6.heap.size ≤ (W8.setRow hm (stV La lc Ls R true)).heap.size := by have := k9.size; have := g8.size; omega
                   clear hF8 hL8 m8 oI8 iI8 gg8 n8 k9 g8 g7 z7
                   generalize W8.setRow hm (stV La lc Ls R true) = W9 at *))
              have z312 : W.heap.size < W9.heap.size := by omega
              have hiaS : ∀ q, ia = some q → ¬ S q.block := fun q hq e => by have := hSlt _ e; have := (hiaB q hq).1; omega
              have hiS : ¬ S W.heap.size := fun e => by have := hSlt _ e; omega
              have hpu := ffPush_full hF9 (rxV ((F2, (ia, ic)), t)) (by show fs.length = R; exact hful)
              go_upto_region 24 with (first
                | (with_reducible refine wpList_loadR rowX rfl _ rfl _ rfl iI9 rfl ?_)
                | (go_at_call 10; (with_reducible refine hpu.mono ?_); rintro e w10 ⟨rfl, h10, k10⟩))
              have hL10 := hL9.ch k10 hTS
              have m10 := k10.bx m9 hnS
              have iI10 := k10.bx iI9 hiS
              have oI10 := oI9.ch k10 hiaS
              have gg10 := k10.below gg9 (Nat.le_refl _) hF9.sB
              have z910 := k10.size
              clear hpu hF9 hL9 m9 oI9 iI9 gg9
              have x4 := (bx6 iI10).2.2.2.2.1
              rw [show (Value.slice ia F2.data.length ic) = .slice ia G ic by rw [HG2.out]] at x4
              go_wp2
              clear x4
              obtain ⟨w20, hw20⟩ : ∃ w20, w20 = w10 := ⟨_, rfl⟩
              rw [← hw20]
              rw [← hw20] at iI10 h10 hL10 oI10 m10 gg10 k10 z910
              clear hw20
              go_loopg [104] G (fun gn vi wr => ∃ (k : Nat) (l' : List UInt8), k ≤ G ∧ gn = G - k ∧ vi = .int .i64 (k : Int) ∧ OL bv 5 W.heap.size wr ia G ic l' ∧ Ch (fun b => ∃ q, ia = some q ∧ q.block = b) w20 wr)
              case atStart => exact ⟨0, F2.data, by omega, by omega, rfl, oI10, Ch.refl _ _⟩
              case round =>
                obtain ⟨k, l', hk, rfl, rfl, hO, kD⟩ := hrel
                have bx4 := kD.bx iI10 (fun ⟨q, e1, e2⟩ => by have := (hiaB q e1).1; omega)
                have x4 := (bx6 bx4).2.2.2.2.1
                rw [show (Value.slice ia F2.data.length ic) = .slice ia G ic by rw [HG2.out]] at x4
                by_cases hkl : k < G
                · rcases hO.ex with ⟨_, h0, _⟩ | ⟨gx, cur, hxa, hBx, hhx, hcx⟩
                  · omega
                  · obtain ⟨v, hv⟩ : ∃ v, l'[k]? = some v := ⟨_, List.getElem?_eq_getElem (by rw [hO.len]; exact hkl)⟩
                    rw [hxa] at x4
                    have hO2 := hO
                    rw [hxa] at hO2
                    obtain ⟨c1, c2⟩ := hO2.cellAt hv
                    unfold bv at c1
                    obtain ⟨z, hz⟩ : ∃ z : UInt8, ((v.toNat : Int) + 1) % 256 = (z.toNat : Int) := ⟨v + 1, by rw [UInt8.toNat_add]; show _ = (((v.toNat + 1) % 256 : Nat) : Int); omega⟩
                    have hO3 : OL bv 5 W.heap.size (wr.setCell ⟨gx, k, none⟩ (.int .u8 (z.toNat : Int))) (some ⟨gx, 0, none⟩) G ic (l'.set k z) := hO2.set z
                    have kD3 : Ch (fun b => ∃ q, ia = some q ∧ q.block = b) w20 (wr.setCell ⟨gx, k, none⟩ (.int .u8 (z.toNat : Int))) := kD.setCell (p := ⟨gx, k, none⟩) (.inl ⟨_, hxa, rfl⟩) _
                    rw [← hxa] at hO3
                    have HXA := hid hxa
                    clear hxa hhx hv bx4 hO hO2 oI10
                    go_wp2
                    go_roundg (G - (k + 1))
                    case measure => omega
                    case rel => exact ⟨k + 1, _, by omega, rfl, by go_num, hO3, kD3⟩
                · obtain rfl : G = k := by omega
                  go_wp2
                  go_meet
                  exact ⟨rfl, a, c, st, S, fs, true, La, lc, Ls, T, h10.ch kD (fun b hb ⟨q, e1, e2⟩ => hiaS q e1 (by rw [e2]; exact hb)), hL10.ch kD (fun b hb ⟨q, e1, e2⟩ => by have := hTlt b hb; have := (hiaB q e1).1; omega), hst, h20, kD.bx m10 (fun ⟨q, e1, e2⟩ => by have := (hiaB q e1).1; omega), hhm, hnS, hnT, hTS, kD.below gg10 (Nat.le_refl _) (fun b ⟨q, e1, e2⟩ => by have := (hiaB q e1).1; have := hWw; omega)⟩
            · have hlt2 : fs.length < R := by have := hF.le; have h9 : fs.length ≤ R := this; omega
              go_upto_region 20 with (first
                | (with_reducible refine wpList_loadM rowX rfl _ rfl _ _ rfl (rxV ((F, (da, dc)), t)) hrX rfl ?_)
                | (with_reducible refine wpList_storeR rowX rfl _ _ rfl _ _ rfl rfl b1 rfl rfl (rx_ones ((F, (da, dc)), t)) ?_
                   have g1 : Below W.heap.size W ((W.alloc (.cells rxZ 36)).setRow W.heap.size (rxV ((F, (da, dc)), t))) := below_setRow (bnew0 W _) (Nat.le_refl _) _
                   have i1 := setRow_heap _ _ _ (rxV ((F, (da, dc)), t)) _ _ b1
                   have bo1 := bx_below bW g1
                   clear b1 hrX
                   generalize (W.alloc (.cells rxZ 36)).setRow W.heap.size (rxV ((F, (da, dc)), t)) = W1 at *
                   have z1 : W.heap.size < W1.heap.size := bx_lt i1
                   have x5 : (W1.alloc (.cells #[] 5)).cell? ⟨b, 5, none⟩ = some (.slice da F.data.length dc) := by rw [cell_of_row _ b 5 _ _ _ (bx_alloc _ bo1)]; rfl
                   have gg1 := bnew (bstep hb g1) (.cells #[] 5)
                   have oe := ol_lit bv 5 W.heap.size W1 [] #[] 0 rfl rfl (by omega) (Nat.le_of_lt z1)
                   have hba : W.heap.size ≤ (W1.alloc (.cells #[] 5)).heap.size := by rw [heap_size_alloc]; omega)
                | (with_reducible refine wpList_cutTo0 (f := bv) tY rfl _ _ rfl _ _ G rfl rfl rfl hdat hG1 ?_
                   intro ca hca
                   rw [hF2d] at hca
                   have hca1 := hca.below gg1)
                | (with_reducible refine wpList_app0 (f := bv) tY rfl _ _ rfl rfl oe rfl hca1 hG6 hby1 hba ?_
                   intro w2 ia ic o2 g2 hia
                   obtain ⟨i3, x24, f2, hiaB, o3, g3⟩ := in_box (F2 := F2) g1 i1 g2 o2 HG2.out hF2e
                   have gg3 := bstep hb g3
                   have hF3 := hF.below g3
                   have hL3 := hL.below g3
                   have m3 := bx_below hbx g3
                   clear hF hL hbx bo1 gg1 oe hba hca hca1 g1 i1 z1 x5 hb hF2e o2 g2 hW0)
                | (with_reducible refine wpList_loadR rowX rfl _ rfl _ rfl i3 rfl ?_
                   clear x24 f2
                   generalize w2.setCell ⟨W.heap.size, 4, none⟩ (.slice ia G ic) = W3 at *
                   have b4 := heap_alloc_new W3 (.cells rxZ 36))
                | (with_reducible refine wpList_storeR rowX rfl _ _ rfl _ _ rfl rfl b4 rfl rfl (rx_ones ((F2, (ia, ic)), t)) ?_
                   have g4 : Below W3.heap.size W3 ((W3.alloc (.cells rxZ 36)).setRow W3.heap.size (rxV ((F2, (ia, ic)), t))) := below_setRow (bnew0 W3 _) (Nat.le_refl _) _
                   have i4 := setRow_heap _ _ _ (rxV ((F2, (ia, ic)), t)) _ _ b4
                   clear b4
                   generalize (W3.alloc (.cells rxZ 36)).setRow W3.heap.size (rxV ((F2, (ia, ic)), t)) = W4 at *
                   have z4 : W3.heap.size < W4.heap.size := bx_lt i4
                   have x5 : (W4.alloc (.cells #[] 5)).cell? ⟨W.heap.size, 4, none⟩ = some (.slice ia G ic) := by rw [cell_of_row _ _ 4 _ _ _ (bx_alloc _ (bx_below i3 g4)), ← HG2.out]; rfl
                   have oe2 := ol_lit bv 5 W3.heap.size W4 [] #[] 0 rfl rfl (by omega) (Nat.le_of_lt z4)
                   have hba2 : W3.heap.size ≤ (W4.alloc (.cells #[] 5)).heap.size := by rw [heap_size_alloc]; omega
                   have src2 := ((o3.below g4).alloc (.cells #[] 5)).rl)
                | (with_reducible refine wpList_app0 (f := bv) tY rfl _ _ rfl rfl oe2 rfl src2 hG6 hby1 hba2 ?_
                   intro w5 ka kc o5 g5 hka
                   obtain ⟨i6, x64, f6, hkaB, o6, g6⟩ := in_box (F2 := F2) g4 i4 g5 o5 HG2.out ⟨rfl, rfl, rfl, rfl⟩
                   have gg6 := bstep gg3 g6
                   have hF6 := hF3.below g6
                   have hL6 := hL3.below g6
                   have m6 := bx_below m3 g6
                   have oI6 := o3.below g6
                   have iI6 := bx_below i3 g6
                   rw [show (rxV ((F2, (ia, ic)), t)) = rxV ((F2, (ia, ic)), t) from rfl] at i4
                   rw [show (Value.slice ia F2.data.length ic) = .slice ia G ic by rw [HG2.out]] at x64))
              generalize w5.setCell ⟨W3.heap.size, 4, none⟩ (.slice ka G kc) = W6 at *
              have hgs : w.heap.size ≤ W3.heap.size := gg3.size
              have hWW : W.heap.size ≤ W3.heap.size := g3.size
              have hW36 : W3.heap.size < W6.heap.size := bx_lt i6
              have hLl : Ls.length = fs.length := by rw [← List.length_map (f := strX), ← hst, List.length_map]
              clear i4 g4 z4 x5 oe2 hba2 src2 o5 g5 x64 f6 hF3 hL3 m3 o3 i3
              have hcon := refPush_any W6 R fl ((F2, (ka, kc)), t) hL6 gg6.size (by omega) (by omega) (by show RL bv W6 ka F2.data.length kc F2.data; rw [HG2.out]; exact o6.rl) (fun q hq => ⟨by have := (hkaB q hq).1; omega, (hkaB q hq).2⟩)
              go_upto_region 22 with (first
                | (with_reducible refine wpList_loadR rowSt rfl _ rfl _ rfl m6 rfl ?_)
                | (with_reducible refine wpList_loadR rowX rfl _ rfl _ rfl i6 rfl ?_)
                | (go_at_call 9; (with_reducible refine hcon.mono ?_); rintro e w7 ⟨L7a, L7c, T7, rfl, hL7, g7, hT7⟩
                   have z7 := g7.size
                   have n7 := heap_alloc_new w7 (.cells stZ 30))
                | (with_reducible refine wpList_storeR rowSt rfl _ _ rfl _ _ rfl rfl n7 rfl rfl (st_ones L7a L7c (Ls ++ [((F2, (ka, kc)), t)]) R fl) ?_
                   have n8 := setRow_heap _ _ _ (stV L7a L7c (Ls ++ [((F2, (ka, kc)), t)]) R fl) _ _ n7
                   have g8 : Below w7.heap.size w7 ((w7.alloc (.cells stZ 30)).setRow w7.heap.size (stV L7a L7c (Ls ++ [((F2, (ka, kc)), t)]) R fl)) := below_setRow (bnew0 w7 _) (Nat.le_refl _) _
                   have hF8 := (hF6.below g7).below g8
                   have hL8 := hL7.below g8
                   have m8 := bx_below (bx_below m6 g7) g8
                   have oI8 := (oI6.below g7).below g8
                   have iI8 := bx_below (bx_below iI6 g7) g8
                   have gg8 := bstep (bstep gg6 g7) g8
                   clear n7 hF6 hL6 hL7 m6 oI6 iI6 gg6 i6 hcon
                   generalize (w7.alloc (.cells stZ 30)).setRow w7.heap.size (stV L7a L7c (Ls ++ [((F2, (ka, kc)), t)]) R fl) = W8 at *)
                | (with_reducible refine wpList_loadR rowSt rfl _ rfl _ rfl n8 rfl ?_)
                | (with_reducible refine wpList_storeR rowSt rfl _ _ rfl _ _ rfl rfl m8 rfl rfl (st_ones L7a L7c (Ls ++ [((F2, (ka, kc)), t)]) R fl) ?_
                   have k9 : Ch (fun b => b = hm) W8 (W8.setRow hm (stV L7a L7c (Ls ++ [((F2, (ka, kc)), t)]) R fl)) := Ch.setRow (S := fun b => b = hm) (Ch.refl _ W8) (.inl rfl) _
                   have hF9 := hF8.ch k9 (fun b hb e => hnS (e ▸ hb))
                   have hnT7 : ¬ T7 hm := fun e => by
                     rcases hT7 _ e with e | ⟨q, e1, e2⟩ | e
                     · exact hnT e
                     · have := (hkaB q e1).1; omega
                     · omega
                   have hL9 := hL8.ch k9 (fun b hb e => hnT7 (e ▸ hb))
                   have m9 := setRow_heap _ _ _ (stV L7a L7c (Ls ++ [((F2, (ka, kc)), t)]) R fl) _ _ m8
                   have iI9 := k9.bx iI8 (by omega)
                   have oI9 := oI8.ch k9 (fun q hq e => by have := (hiaB q hq).1; omega)
                   have gg9 := k9.below gg8 (Nat.le_refl _) (fun b hb => by rw [hb]; exact hhm)
                   have z9 : W6.heap.size ≤ (W8.setRow hm (stV L7a L7c (Ls ++ [((F2, (ka, kc)), t)]) R fl)).heap.size := by have := k9.size; have := g8.size; omega
                   clear hF8 hL8 m8 oI8 iI8 gg8 n8 k9 g8 g7 z7
                   generalize W8.setRow hm (stV L7a L7c (Ls ++ [((F2, (ka, kc)), t)]) R fl) = W9 at *))
              have z312 : W.heap.size < W9.heap.size := by omega
              have hiaS : ∀ q, ia = some q → ¬ S q.block := fun q hq e => by have := hSlt _ e; have := (hiaB q hq).1; omega
              have hiS : ¬ S W.heap.size := fun e => by have := hSlt _ e; omega
              have hpu := ffPush_any hF9 F2 t ia ic hlt2 (fun w' kk => by rw [HG2.out]; exact (oI9.ch kk hiaS).rl) (by rw [HG2.out]; exact hG6)
              go_upto_region 24 with (first
                | (with_reducible refine wpList_loadR rowX rfl _ rfl _ rfl iI9 rfl ?_)
                | (go_at_call 10; (with_reducible refine hpu.mono ?_); rintro e w10 ⟨a10, c10, st10, S10, da10, dc10, rfl, h10, k10, s10⟩))
              have hTS7 : ∀ k, T7 k → ¬ S k := fun k hk e => by
                rcases hT7 _ hk with h | ⟨q, e1, e2⟩ | h
                · exact hTS k h e
                · have := (hkaB q e1).1; have := hSlt _ e; omega
                · have := hSlt _ e; omega
              have hL10 := hL9.ch k10 hTS7
              have m10 := k10.bx m9 hnS
              have hm9 : hm < W9.heap.size := bx_lt m9
              have hL9t := hL9.tL
              have iI10 := k10.bx iI9 hiS
              have oI10 := oI9.ch k10 hiaS
              have gg10 := k10.below gg9 (Nat.le_refl _) hF9.sB
              have z910 := k10.size
              clear hpu hF9 hL9 m9 oI9 iI9 gg9
              have x4 := (bx6 iI10).2.2.2.2.1
              rw [show (Value.slice ia F2.data.length ic) = .slice ia G ic by rw [HG2.out]] at x4
              go_wp2
              clear x4
              obtain ⟨w20, hw20⟩ : ∃ w20, w20 = w10 := ⟨_, rfl⟩
              rw [← hw20]
              rw [← hw20] at iI10 h10 hL10 oI10 m10 gg10 k10 z910
              clear hw20
              go_loopg [104] G (fun gn vi wr => ∃ (k : Nat) (l' : List UInt8), k ≤ G ∧ gn = G - k ∧ vi = .int .i64 (k : Int) ∧ OL bv 5 W.heap.size wr ia G ic l' ∧ Ch (fun b => ∃ q, ia = some q ∧ q.block = b) w20 wr)
              case atStart => exact ⟨0, F2.data, by omega, by omega, rfl, oI10, Ch.refl _ _⟩
              case round =>
                obtain ⟨k, l', hk, rfl, rfl, hO, kD⟩ := hrel
                have bx4 := kD.bx iI10 (fun ⟨q, e1, e2⟩ => by have := (hiaB q e1).1; omega)
                have x4 := (bx6 bx4).2.2.2.2.1
                rw [show (Value.slice ia F2.data.length ic) = .slice ia G ic by rw [HG2.out]] at x4
                by_cases hkl : k < G
                · rcases hO.ex with ⟨_, h0, _⟩ | ⟨gx, cur, hxa, hBx, hhx, hcx⟩
                  · omega
                  · obtain ⟨v, hv⟩ : ∃ v, l'[k]? = some v := ⟨_, List.getElem?_eq_getElem (by rw [hO.len]; exact hkl)⟩
                    rw [hxa] at x4
                    have hO2 := hO
                    rw [hxa] at hO2
                    obtain ⟨c1, c2⟩ := hO2.cellAt hv
                    unfold bv at c1
                    obtain ⟨z, hz⟩ : ∃ z : UInt8, ((v.toNat : Int) + 1) % 256 = (z.toNat : Int) := ⟨v + 1, by rw [UInt8.toNat_add]; show _ = (((v.toNat + 1) % 256 : Nat) : Int); omega⟩
                    have hO3 : OL bv 5 W.heap.size (wr.setCell ⟨gx, k, none⟩ (.int .u8 (z.toNat : Int))) (some ⟨gx, 0, none⟩) G ic (l'.set k z) := hO2.set z
                    have kD3 : Ch (fun b => ∃ q, ia = some q ∧ q.block = b) w20 (wr.setCell ⟨gx, k, none⟩ (.int .u8 (z.toNat : Int))) := kD.setCell (p := ⟨gx, k, none⟩) (.inl ⟨_, hxa, rfl⟩) _
                    rw [← hxa] at hO3
                    have HXA := hid hxa
                    clear hxa hhx hv bx4 hO hO2 oI10
                    go_wp2
                    go_roundg (G - (k + 1))
                    case measure => omega
                    case rel => exact ⟨k + 1, _, by omega, rfl, by go_num, hO3, kD3⟩
                · obtain rfl : G = k := by omega
                  go_wp2
                  go_meet
                  have hnT7 : ¬ T7 hm := fun e => by
                    rcases hT7 _ e with e | ⟨q, e1, e2⟩ | e
                    · exact hnT e
                    · have := (hkaB q e1).1; omega
                    · omega
                  refine ⟨rfl, a10, c10, st10, S10, _, fl, L7a, L7c, _, T7, h10.ch kD (fun b hb ⟨q, e1, e2⟩ => ?_), hL10.ch kD (fun b hb ⟨q, e1, e2⟩ => ?_), ?_, fun x hx => ?_, kD.bx m10 (fun ⟨q, e1, e2⟩ => by have := (hiaB q e1).1; omega), hhm, fun e => ?_, hnT7, fun k hk e => ?_, kD.below gg10 (Nat.le_refl _) (fun b ⟨q, e1, e2⟩ => by have := (hiaB q e1).1; have := hWw; omega)⟩
                  · rcases s10 _ hb with h | h
                    · exact hiaS q e1 (by rw [e2]; exact h)
                    · have := (hiaB q e1).2; omega
                  · rcases hT7 _ hb with h | ⟨q', e1', e2'⟩ | h
                    · have := hTlt b h; have := (hiaB q e1).1; omega
                    · have := (hkaB q' e1').1; have := (hiaB q e1).2; omega
                    · have := (hiaB q e1).2; omega
                  · show (fs ++ [((F2, (da10, dc10)), t)]).map strX = (Ls ++ [((F2, (ka, kc)), t)]).map strX
                    rw [List.map_append, List.map_append, hst]; rfl
                  · rcases List.mem_append.1 hx with hx | hx
                    · exact h20 x hx
                    · simp at hx; subst hx; show F2.data.length ≤ 20; rw [HG2.out]; exact hG20
                  · rcases s10 _ e with h | h
                    · exact hnS h
                    · omega
                  · rcases s10 _ e with h | h
                    · exact hTS7 k hk h
                    · have := hL9t k hk; omega
          · have hmlt : hm < W.heap.size := bx_lt hbx
            have hSlt := hF.sL
            cases fs with
            | nil =>
              have hLs : Ls = [] := by
                cases Ls with
                | nil => rfl
                | cons y l => simp at hst
              subst hLs
              have hrp := refPop_no (a := La) (c := lc) W R fl
              have hal : ∀ w', Calls Try.prog 13 #[.agg rxZ, .agg rxZ] w' fun e w'' => e = .returned (.bool true) ∧ Below w'.heap.size w' w'' := fun w' => alike_eq w' ⟨0, false, false, 0, []⟩ 0 none none 0 0 (RL.nil _ _ _ _) (RL.nil _ _ _ _) (Nat.zero_le _)
              go_upto_region 33 with (first
                | (with_reducible refine wpList_loadR rowSt rfl _ rfl _ rfl hbx rfl ?_)
                | (go_at_call 11; (with_reducible refine hrp.mono ?_); rintro e w3 ⟨rfl, g3⟩
                   have z3 := g3.size
                   have n3 := bx_alloc (.cells rxZ 36) (heap_alloc_new w3 (.cells stZ 30)))
                | (with_reducible refine wpList_storeR rowSt rfl _ _ rfl _ _ rfl rfl n3 rfl rfl (st_ones La lc [] R fl) ?_
                   have n4 := setRow_heap _ _ _ (stV La lc [] R fl) _ _ n3
                   have q4 : (((w3.alloc (.cells stZ 30)).alloc (.cells rxZ 36)).setRow w3.heap.size (stV La lc [] R fl)).heap[w3.heap.size + 1]? = some (.cells rxZ 36 (0, 0)) := by
                     rw [setRow_other _ _ _ _ (by omega)]
                     have := heap_alloc_new (w3.alloc (.cells stZ 30)) (.cells rxZ 36); rwa [heap_size_alloc] at this
                   have g4 : Below w3.heap.size w3 (((w3.alloc (.cells stZ 30)).alloc (.cells rxZ 36)).setRow w3.heap.size (stV La lc [] R fl)) := below_setRow (bnew (bnew0 w3 _) _) (Nat.le_refl _) _
                   clear n3
                   generalize ((w3.alloc (.cells stZ 30)).alloc (.cells rxZ 36)).setRow w3.heap.size (stV La lc [] R fl) = W4 at *)
                | (with_reducible refine wpList_storeR rowX rfl _ _ rfl _ _ rfl rfl q4 rfl rfl rxZ_ones ?_
                   have q5 := setRow_heap _ _ _ rxZ _ _ q4
                   have n5 := (setRow_other W4 (w3.heap.size + 1) w3.heap.size rxZ (by omega)).trans n4
                   have g5 : Below w3.heap.size w3 (W4.setRow (w3.heap.size + 1) rxZ) := below_setRow g4 (by omega) _
                   have hF5 := (hF.below g3).below g5
                   have hL5 := (hL.below g3).below g5
                   have b5 := bx_below (bx_below hbx g3) g5
                   have gg5 := bstep (bstep hb g3) g5
                   clear n4 q4 g4
                   generalize W4.setRow (w3.heap.size + 1) rxZ = W5 at *)
                | (with_reducible refine wpList_loadR rowSt rfl _ rfl _ rfl n5 rfl ?_)
                | (with_reducible refine wpList_storeR rowSt rfl _ _ rfl _ _ rfl rfl b5 rfl rfl (st_ones La lc [] R fl) ?_
                   have k6 : Ch (fun b => b = hm) W5 (W5.setRow hm (stV La lc [] R fl)) := Ch.setRow (S := fun b => b = hm) (Ch.refl _ W5) (.inl rfl) _
                   have hF6 := hF5.ch k6 (fun b hb e => hnS (e ▸ hb))
                   have hL6 := hL5.ch k6 (fun b hb e => hnT (e ▸ hb))
                   have b6 := setRow_heap _ _ _ (stV La lc [] R fl) _ _ b5
                   have q6 := k6.bx q5 (by omega)
                   have gg6 := k6.below gg5 (Nat.le_refl _) (fun b hb => by rw [hb]; exact hhm)
                   clear hF5 hL5 b5 k6 q5 gg5 n5
                   generalize W5.setRow hm (stV La lc [] R fl) = W6 at *)
                | (go_at_call 12; (with_reducible refine (ffPop_no hF6 rfl).mono ?_); rintro e w7 ⟨rfl, g7⟩
                   have b7 := heap_alloc_new w7 (.cells rxZ 36))
                | (with_reducible refine wpList_storeR rowX rfl _ _ rfl _ _ rfl rfl b7 rfl rfl rxZ_ones ?_
                   have g8 : Below w7.heap.size w7 ((w7.alloc (.cells rxZ 36)).setRow w7.heap.size rxZ) := below_setRow (bnew0 w7 _) (Nat.le_refl _) _
                   have b8 := setRow_heap _ _ _ rxZ _ _ b7
                   have hF8 := (hF6.below g7).below g8
                   have hL8 := (hL6.below g7).below g8
                   have m8 := bx_below (bx_below b6 g7) g8
                   have q8 := bx_below (bx_below q6 g7) g8
                   have gg8 := bstep (bstep gg6 g7) g8
                   clear hF6 hL6 b6 q6 gg6 b7 g8 g7
                   generalize (w7.alloc (.cells rxZ 36)).setRow w7.heap.size rxZ = W8 at *))
              go_upto_region 35 with (first
                | (with_reducible refine wpList_loadW rowX (by simp [Region.wanted, yielded, Act.put]) _ rfl _ rfl b8 rfl ?_)
                | (with_reducible refine wpList_loadW rowX (by simp [Region.wanted, yielded, Act.put]) _ rfl _ rfl q8 rfl ?_)
                | (go_at_call 13; (with_reducible refine (hal _).mono ?_); rintro e w9 ⟨rfl, g9⟩))
              have x4 := (bx6 (bx_below b8 g9)).2.2.2.2.1
              have hF9 := hF8.below g9
              have hL9 := hL8.below g9
              have m9 := bx_below m8 g9
              have gg9 := bstep gg8 g9
              clear hF8 hL8 m8 gg8 q8 b8 hal hrp
              go_wp2
              go_loopg [143] 0 (fun gn vi wr => gn = 0 ∧ vi = .int .i64 0 ∧ wr = w9)
              case atStart => exact ⟨rfl, rfl, rfl⟩
              case round =>
                obtain ⟨rfl, rfl, rfl⟩ := hrel
                go_wp2
                go_meet
                exact ⟨rfl, a, c, st, S, [], fl, La, lc, [], T, hF9, hL9, rfl, h20, m9, hhm, hnS, hnT, hTS, gg9⟩
            | cons x fs2 =>
              obtain ⟨y, L2, rfl⟩ : ∃ y L2, Ls = y :: L2 := by
                cases Ls with
                | nil => simp at hst
                | cons y l => exact ⟨y, l, rfl⟩
              simp only [List.map_cons, List.cons.injEq] at hst
              obtain ⟨hxy, hst2⟩ := hst
              obtain ⟨⟨xF, xa, xc⟩, xt⟩ := x
              obtain ⟨⟨yF, ya, yc⟩, yt⟩ := y
              simp only [strX, Prod.mk.injEq] at hxy
              obtain ⟨rfl, rfl⟩ := hxy
              have hxl : xF.data.length ≤ 20 := h20 ((xF, (xa, xc)), xt) (by simp)
              have hxs : ∀ q, xa = some q → S q.block := hF.sd ((xF, (xa, xc)), xt) (by simp)
              have hyd : RL bv W ya xF.data.length yc xF.data := hL.dat ((xF, (ya, yc)), xt) (by simp)
              have hyt : ∀ q, ya = some q → T q.block := hL.td ((xF, (ya, yc)), xt) (by simp)
              have hrp := refPop_any (a := La) (c := lc) W R fl ((xF, (ya, yc)), xt) L2 hL
              have hTlt := hL.tL
              have hTB := hL.tB
              clear hL
              go_upto_region 33 with (first
                | (with_reducible refine wpList_loadR rowSt rfl _ rfl _ rfl hbx rfl ?_)
                | (go_at_call 11; (with_reducible refine hrp.mono ?_); rintro e w3 ⟨L3a, L3c, rfl, hL3, g3⟩
                   have z3 := g3.size
                   have n3 := bx_alloc (.cells rxZ 36) (heap_alloc_new w3 (.cells stZ 30)))
                | (with_reducible refine wpList_storeR rowSt rfl _ _ rfl _ _ rfl rfl n3 rfl rfl (st_ones L3a L3c L2 R fl) ?_
                   have n4 := setRow_heap _ _ _ (stV L3a L3c L2 R fl) _ _ n3
                   have q4 : (((w3.alloc (.cells stZ 30)).alloc (.cells rxZ 36)).setRow w3.heap.size (stV L3a L3c L2 R fl)).heap[w3.heap.size + 1]? = some (.cells rxZ 36 (0, 0)) := by
                     rw [setRow_other _ _ _ _ (by omega)]
                     have := heap_alloc_new (w3.alloc (.cells stZ 30)) (.cells rxZ 36); rwa [heap_size_alloc] at this
                   have g4 : Below w3.heap.size w3 (((w3.alloc (.cells stZ 30)).alloc (.cells rxZ 36)).setRow w3.heap.size (stV L3a L3c L2 R fl)) := below_setRow (bnew (bnew0 w3 _) _) (Nat.le_refl _) _
                   clear n3
                   generalize ((w3.alloc (.cells stZ 30)).alloc (.cells rxZ 36)).setRow w3.heap.size (stV L3a L3c L2 R fl) = W4 at *)
                | (with_reducible refine wpList_storeR rowX rfl _ _ rfl _ _ rfl rfl q4 rfl rfl (rx_ones ((xF, (ya, yc)), xt)) ?_
                   have q5 := setRow_heap _ _ _ (rxV ((xF, (ya, yc)), xt)) _ _ q4
                   have n5 := (setRow_other W4 (w3.heap.size + 1) w3.heap.size (rxV ((xF, (ya, yc)), xt)) (by omega)).trans n4
                   have g5 : Below w3.heap.size w3 (W4.setRow (w3.heap.size + 1) (rxV ((xF, (ya, yc)), xt))) := below_setRow g4 (by omega) _
                   have hF5 := (hF.below g3).below g5
                   have hL5 := hL3.below g5
                   have y5 := (hyd.below g3).below g5
                   have b5 := bx_below (bx_below hbx g3) g5
                   have gg5 := bstep (bstep hb g3) g5
                   clear n4 q4 g4
                   generalize W4.setRow (w3.heap.size + 1) (rxV ((xF, (ya, yc)), xt)) = W5 at *)
                | (with_reducible refine wpList_loadR rowSt rfl _ rfl _ rfl n5 rfl ?_)
                | (with_reducible refine wpList_storeR rowSt rfl _ _ rfl _ _ rfl rfl b5 rfl rfl (st_ones L3a L3c L2 R fl) ?_
                   have k6 : Ch (fun b => b = hm) W5 (W5.setRow hm (stV L3a L3c L2 R fl)) := Ch.setRow (S := fun b => b = hm) (Ch.refl _ W5) (.inl rfl) _
                   have hF6 := hF5.ch k6 (fun b hb e => hnS (e ▸ hb))
                   have hL6 := hL5.ch k6 (fun b hb e => hnT (e ▸ hb))
                   have y6 := y5.ch k6 (fun q hq e => hnT (e ▸ hyt q hq))
                   have b6 := setRow_heap _ _ _ (stV L3a L3c L2 R fl) _ _ b5
                   have q6 := k6.bx q5 (by omega)
                   have gg6 := k6.below gg5 (Nat.le_refl _) (fun b hb => by rw [hb]; exact hhm)
                   have hpo := ffPop_any hF6 ((xF, (xa, xc)), xt) rfl
                   clear hF5 hL5 y5 b5 k6 q5 gg5 n5
                   generalize W5.setRow hm (stV L3a L3c L2 R fl) = W6 at *)
                | (go_at_call 12; (with_reducible refine hpo.mono ?_); rintro e w7 ⟨a7, rfl, hF7, hX7, k7⟩
                   have hgs : ∀ b, b = g ∨ b = s → S b := fun b hb => by rcases hb with e | e; rw [e]; exact hF6.sg; rw [e]; exact hF6.ss
                   have hL7 := hL6.ch k7 (fun b hb e => hTS b hb (hgs b e))
                   have y7 := y6.ch k7 (fun q hq e => hTS _ (hyt q hq) (hgs _ e))
                   have m7 := k7.bx b6 (fun e => hnS (hgs _ e))
                   have q7 := k7.bx q6 (fun e => by have := hSlt _ (hgs _ e); omega)
                   have gg7 := k7.below gg6 (Nat.le_refl _) (fun b hb => hF6.sB b (hgs b hb))
                   clear hF6 hL6 y6 b6 q6 gg6 hpo k7
                   have b7 := heap_alloc_new w7 (.cells rxZ 36))
                | (with_reducible refine wpList_storeR rowX rfl _ _ rfl _ _ rfl rfl b7 rfl rfl (rx_ones ((xF, (xa, xc)), xt)) ?_
                   have g8 : Below w7.heap.size w7 ((w7.alloc (.cells rxZ 36)).setRow w7.heap.size (rxV ((xF, (xa, xc)), xt))) := below_setRow (bnew0 w7 _) (Nat.le_refl _) _
                   have b8 := setRow_heap _ _ _ (rxV ((xF, (xa, xc)), xt)) _ _ b7
                   have hF8 := hF7.below g8
                   have hL8 := hL7.below g8
                   have hX8 : OL bv 5 w.heap.size ((w7.alloc (.cells rxZ 36)).setRow w7.heap.size (rxV ((xF, (xa, xc)), xt))) xa xF.data.length xc xF.data := OL.below hX7 g8
                   have y8 := y7.below g8
                   have m8 := bx_below m7 g8
                   have q8 := bx_below q7 g8
                   have gg8 := bstep gg7 g8
                   have z8 : W.heap.size ≤ w7.heap.size := by have := bx_lt q7; omega
                   clear hF7 hL7 hX7 y7 m7 q7 gg7 b7 g8
                   generalize (w7.alloc (.cells rxZ 36)).setRow w7.heap.size (rxV ((xF, (xa, xc)), xt)) = W8 at *
                   have hal := alike_eq W8 xF xt xa ya xc yc hX8.rl y8 (by omega)))
              go_upto_region 35 with (first
                | (with_reducible refine wpList_loadW rowX (by simp [Region.wanted, yielded, Act.put]) _ rfl _ rfl b8 rfl ?_)
                | (with_reducible refine wpList_loadW rowX (by simp [Region.wanted, yielded, Act.put]) _ rfl _ rfl q8 rfl ?_)
                | (go_at_call 13; (with_reducible refine hal.mono ?_); rintro e w9 ⟨rfl, g9⟩))
              have b9 := bx_below b8 g9
              have hF9 := hF8.below g9
              have hL9 := hL8.below g9
              have hX9 := hX8.below g9
              have m9 := bx_below m8 g9
              have gg9 := bstep gg8 g9
              clear hF8 hL8 hX8 y8 m8 gg8 q8 b8 hal hrp
              generalize w7.heap.size = xb at *
              obtain ⟨n, hn⟩ : ∃ n, xF.data.length = n := ⟨_, rfl⟩
              rw [hn] at hX9
              have x4 := (bx6 b9).2.2.2.2.1
              rw [show (Value.slice xa xF.data.length xc) = .slice xa n xc by rw [hn]] at x4
              have HN := hid hn
              have hn20 : n ≤ 20 := by omega
              clear hn hxl
              go_wp2
              clear x4
              obtain ⟨w20, hw20⟩ : ∃ w20, w20 = w9 := ⟨_, rfl⟩
              rw [← hw20]
              rw [← hw20] at b9 hF9 hL9 hX9 m9 gg9
              clear hw20 g9
              go_loopg [143] n (fun gn vi wr => ∃ (k : Nat) (l' : List UInt8), k ≤ n ∧ gn = n - k ∧ vi = .int .i64 (k : Int) ∧ OL bv 5 w.heap.size wr xa n xc l' ∧ Ch (fun b => ∃ q, xa = some q ∧ q.block = b) w20 wr)
              case atStart => exact ⟨0, xF.data, by omega, by omega, rfl, hX9, Ch.refl _ _⟩
              case round =>
                obtain ⟨k, l', hk, rfl, rfl, hO, kD⟩ := hrel
                have hDS : ∀ b, (∃ q, xa = some q ∧ q.block = b) → S b := fun b ⟨q, e1, e2⟩ => by rw [← e2]; exact hxs q e1
                have bx4 := kD.bx b9 (fun e => by have := hSlt _ (hDS _ e); omega)
                have x4 := (bx6 bx4).2.2.2.2.1
                rw [show (Value.slice xa xF.data.length xc) = .slice xa n xc by rw [HN.out]] at x4
                by_cases hkl : k < n
                · rcases hO.ex with ⟨_, h0, _⟩ | ⟨gx, cur, hxa, hBx, hhx, hcx⟩
                  · omega
                  · obtain ⟨v, hv⟩ : ∃ v, l'[k]? = some v := ⟨_, List.getElem?_eq_getElem (by rw [hO.len]; exact hkl)⟩
                    rw [hxa] at x4
                    have hO2 := hO
                    rw [hxa] at hO2
                    obtain ⟨c1, c2⟩ := hO2.cellAt hv
                    have hO3 : OL bv 5 w.heap.size (wr.setCell ⟨gx, k, none⟩ (.int .u8 77)) (some ⟨gx, 0, none⟩) n xc (l'.set k 77) := hO2.set 77
                    have kD3 : Ch (fun b => ∃ q, xa = some q ∧ q.block = b) w20 (wr.setCell ⟨gx, k, none⟩ (.int .u8 77)) := kD.setCell (p := ⟨gx, k, none⟩) (.inl ⟨_, hxa, rfl⟩) _
                    rw [← hxa] at hO3
                    have HXA := hid hxa
                    clear hxa hhx hv bx4 hO hO2 hX9
                    go_wp2
                    go_roundg (n - (k + 1))
                    case measure => omega
                    case rel => exact ⟨k + 1, _, by omega, rfl, by go_num, hO3, kD3⟩
                · obtain rfl : n = k := by omega
                  have hTS2 : ∀ k, T k → ¬ (S k ∧ ∀ q, xa = some q → k ≠ q.block) := fun k hk e => hTS k hk e.1
                  go_wp2
                  go_meet
                  exact ⟨rfl, a7, _, _, _, fs2, fl, L3a, L3c, L2, T, hF9.ch kD (fun b hb ⟨q, e1, e2⟩ => hb.2 q e1 e2.symm), hL9.ch kD (fun b hb e => hTS b hb (hDS b e)), hst2, fun z hz => h20 z (List.mem_cons_of_mem _ hz), kD.bx m9 (fun e => hnS (hDS _ e)), hhm, fun e => hnS e.1, hnT, hTS2, kD.below gg9 (Nat.le_refl _) (fun b hb => hF.sB b (hDS b hb))⟩
          · have x2 := (bx3s hbx).2.2
            have hbb : (fl != fl) = false := by cases fl <;> rfl
            go_wp2
            have hFd := hF.below ((Below.refl W.heap.size W).drew)
            have HS : W.drew.cell? ⟨hm, 2, none⟩ = some (.bool fl) := x2
            refine Rest.begin (S := fun w' => w'.cell? ⟨hm, 2, none⟩ = some (.bool fl)) (X := [4]) (by kernel_rfl) ?_
            change Rest _ _ _ _ _ _ _ _ _ W.drew
            refine Rest.take (i := 0) (v := .pointer (some ⟨g, 0, none⟩)) rfl (by kernel_rfl) (by kernel_rfl) (by kernel_rfl) (by kernel_rfl) (fun _ _ _ h => h) (.inl HS) (Or.inl ⟨by simp [Region.wanted], ?_⟩) ?_
            · intro w; go_simp
            refine Rest.take (i := 2) (v := .pointer (some ⟨hm, 2, none⟩)) rfl (by kernel_rfl) (by kernel_rfl) (by kernel_rfl) (by kernel_rfl) (fun _ _ _ h => h) (.inl HS) (Or.inl ⟨by simp [Region.wanted], ?_⟩) ?_
            · intro w; go_simp
            refine Rest.takeS (i := 3) (v := .bool fl) rfl (by kernel_rfl) (by kernel_rfl) (by kernel_rfl) (by kernel_rfl) (fun _ _ _ h => h) HS (.inl ⟨by simp [Region.wanted], ?_⟩) ?_
            · intro w hw; have q2 : w.cell? ⟨hm, 2, none⟩ = some (.bool fl) := hw; go_simp
            refine Rest.one (i := 1) (by kernel_rfl) rfl (fun K hK => ?_)
            refine draw_callF 14 (by kernel_rfl) (by simp [Region.wanted]) _ _ _ rfl (by simp [Act.eval]) #[.pointer (some ⟨g, 0, none⟩)] (by simp [Act.eval, Act.put]) _ (ffClear_any hFd) ?_
            rintro e w3 ⟨rfl, h3, k3⟩
            refine ⟨_, rfl, ?_⟩
            have hb3 : w3.heap[hm]? = some (.cells (stV La lc Ls R fl) 30 (0, 0)) := k3.bx (w := W.drew) hbx hnS
            have q3 := (bx3s hb3).2.2
            refine hK _ _ ⟨.inl q3, ?_⟩; clear hK K
            refine Rest.one (i := 4) (by kernel_rfl) rfl (fun K hK => ?_)
            rw [if_pos (by simp [Region.wanted])]
            go_simp
            refine hK _ _ ⟨.inr (thru_of (by kernel_rfl)), Rest.of_any _ _ _ _ (thru_of (by kernel_rfl)) ?_⟩; clear hK K
            refine wpAny_done (by kernel_rfl) ?_ _
            have f3 := bx_thaw hb3
            have gd : Below w.heap.size w W.drew := hb.drew
            have L3 : LrO w.heap.size w3 La lc Ls T := (hL.below ((Below.refl W.heap.size W).drew)).ch k3 hTS
            have g3 := k3.below gd (Nat.le_refl _) hF.sB
            clear x2 HS hFd hF hL hbx k3 gd
            go_wp2
            go_meet
            have k4 : Ch (fun b => b = hm) w3 (w3.setCell ⟨hm, 2, none⟩ (.bool false)) := Ch.setCell (S := fun b => b = hm) (Ch.refl _ w3) (p := ⟨hm, 2, none⟩) (.inl rfl) _
            exact ⟨rfl, a, c, st, S, fs, false, La, lc, Ls, T, h3.ch k4 (fun b hb e => hnS (e ▸ hb)), L3.ch k4 (fun b hb e => hnT (e ▸ hb)), hst, h20, heap_setCell_same w3 hm 2 _ _ _ hb3, hhm, hnS, hnT, hTS, k4.below g3 (Nat.le_refl _) (fun b hb => by rw [hb]; exact hhm)⟩
        case rest =>
        obtain ⟨rfl, hT2⟩ := hcut
        have hT3 := hT2
        obtain ⟨a, c, st, S, fs, fl, La, lc, Ls, T, hF, hL, hst, h20, hbx, hhm, hnS, hnT, hTS, hb⟩ := hT2
        obtain ⟨n, hn⟩ : ∃ n, fs.length = n := ⟨_, rfl⟩
        have hln : Ls.length = n := by rw [← hn, ← List.length_map (f := strX), ← hst, List.length_map]
        have kLen : ∀ d os, Calls Try.prog 15 #[.pointer (some ⟨g, 0, none⟩)] (grow (redrawn wc d) os) fun e w'' => e = .returned (.int .i64 (n : Int)) ∧ ∃ r : Regrown, w'' = grow (redrawn wc r.d) r.os := fun d os =>
          Calls.regrown_of ((ffLen_any (hF.below (below_regrown _ _ _))).mono fun e w' ⟨he, hw⟩ => ⟨by rw [he, hn], hw ▸ Below.refl _ _⟩)
        have kOver : ∀ d os, Calls Try.prog 16 #[.pointer (some ⟨g, 0, none⟩)] (grow (redrawn wc d) os) fun e w'' => e = .returned (.bool fl) ∧ ∃ r : Regrown, w'' = grow (redrawn wc r.d) r.os := fun d os =>
          Calls.regrown_of ((ffOver_any (hF.below (below_regrown _ _ _))).mono fun e w' ⟨he, hw⟩ => ⟨he, hw ▸ Below.refl _ _⟩)
        have y0 : ∀ d os, (grow (redrawn wc d) os).cell? ⟨hm, 0, none⟩ = some (.slice La n lc) := fun d os => by have := cell_regrown (bx3s hbx).1 d os; rwa [hln] at this
        have y2 : ∀ d os, (grow (redrawn wc d) os).cell? ⟨hm, 2, none⟩ = some (.bool fl) := fun d os => cell_regrown (bx3s hbx).2.2 d os
        have hbb : (fl != fl) = false := by cases fl <;> rfl
        have hnn : ((n : Int) == (n : Int)) = true := by simp
        clear hF hL hst h20 hbx hnS hnT hTS hn hln HO hroom
        go_upto_region 40 with fail
        refine wp_region_quiet_below (by kernel_rfl) (by kernel_rfl) ?_
        repeat (go_big_quiet_step (first | (go_at_call 15; with_reducible exact kLen _ _) | (go_at_call 16; with_reducible exact kOver _ _)))
        refine wpQuiet_nil ?_
        intro w9 hw9
        have g9 : Below wc.heap.size wc w9 := by obtain ⟨p9, rfl⟩ := hw9; exact below_regrown _ _ _
        clear hw9 kLen kOver y0 y2
        have hT9 := hT3.below g9
        go_wp2
        go_roundg (L - (i + 1))
        case measure => omega
        case rel => exact ⟨i + 1, by omega, rfl, by go_num, hT9⟩
      · obtain rfl : i = L := by omega
        obtain ⟨a, c, st, S, fs, fl, La, lc, Ls, T, _, _, _, _, _, _, _, _, _, hb⟩ := hT
        go_wp2_with (go_at_call 8; (with_reducible refine (awake12_any _).mono ?_); rintro e w5 ⟨rfl, g5⟩)
        go_ret
        exact ⟨rfl, bstep hb g5⟩
end Go.Proofs.Ytkojljmhgeehoaa
