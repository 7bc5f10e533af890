/-
  One operation on both: a frame is put (jackstaylaw10.step).
-/
import Derived.Test.YtffbkcjkmhjfnaaB10za
import Derived.Test.YtffbkcjkmhjfnaaRt
import Derived.Test.YtffbkcjkmhjfnaaCt0
namespace Go.Proofs.Ytffbkcjkmhjfnaa
open Go.RowKit Go.Sort
set_option linter.unusedVariables false
set_option linter.unusedSimpArgs false

theorem in_boxF {W W1 w2 : World} {F F2 : Fr} {da ia : Option Addr} {dc ic G : Nat} (g1 : Below W.heap.size W W1) (i1 : W1.heap[W.heap.size]? = some (.cells (frV F da dc) 34 (0, 0)))
    (g2 : Below (W1.alloc (.cells #[] 5)).heap.size (W1.alloc (.cells #[] 5)) w2) (o2 : OL bv 5 W.heap.size w2 ia G ic F2.data) (hG2 : F2.data.length = G) (hF2 : F2.id = F.id ∧ F2.ext = F.ext ∧ F2.rem = F.rem ∧ F2.dlc = F.dlc) :
    (w2.setCell ⟨W.heap.size, 4, none⟩ (.slice ia G ic)).heap[W.heap.size]? = some (.cells (frV F2 ia ic) 34 (0, 0)) ∧ w2.cell? ⟨W.heap.size, 4, none⟩ = some (.slice da F.data.length dc) ∧ w2.frozen? ⟨W.heap.size, 4, none⟩ = false ∧
    (∀ q, ia = some q → W.heap.size < q.block ∧ q.block < (w2.setCell ⟨W.heap.size, 4, none⟩ (.slice ia G ic)).heap.size) ∧ OL bv 5 W.heap.size (w2.setCell ⟨W.heap.size, 4, none⟩ (.slice ia G ic)) ia G ic F2.data ∧
    Below W.heap.size W (w2.setCell ⟨W.heap.size, 4, none⟩ (.slice ia G ic)) := by
  have i2 := bx_below (bx_alloc (.cells #[] 5) i1) g2
  have hne : ∀ q, ia = some q → W.heap.size ≠ q.block := fun q hq e => by
    rcases o2.ex with ⟨h0, _⟩ | ⟨gx, cur, hgx, _, hhx, _⟩
    · rw [h0] at hq; cases hq
    · rw [hgx] at hq
      cases hq
      dsimp only at e
      rw [← e, i2] at hhx
      simp at hhx
  refine ⟨?_, (bx5 i2).2.2.2.2, bx_thaw i2 4, fun q hq => ⟨?_, ?_⟩, o2.kept fun b hb => Below.heap_setCell _ _ _ _ (Ne.symm (hne _ hb)), (bstep (bnew g1 _) g2).setCell (Nat.le_refl _) _⟩
  · rw [heap_setCell_same w2 W.heap.size 4 _ _ _ i2]
    have e : frV F2 ia ic = #[.int .u32 (F.id : Int), .bool F.ext, .bool F.rem, .int .u8 (F.dlc : Int), .slice ia G ic] := by
      show (#[.int .u32 (F2.id : Int), .bool F2.ext, .bool F2.rem, .int .u8 (F2.dlc : Int), .slice ia F2.data.length ic] : Array Value) = _
      rw [hF2.1, hF2.2.1, hF2.2.2.1, hF2.2.2.2, hG2]
    rw [e]; rfl
  · have := (o2.ltB hq).2; have := hne q hq; omega
  · rw [sz_set]; exact (o2.ltB hq).1

theorem op_range10 {w : World} {b : Nat} {o : Op10} (h : w.heap[b]? = some (.cells (opV10 o) 36 (0, 0))) : w.rangeAt b 1 (frV o.2.1.1 o.2.1.2.1 o.2.1.2.2).toList := fun j v hj => by
  rw [cell_of_row w b (1 + j) _ _ _ h]
  match j, hj with
  | 0, hj => simpa using hj
  | 1, hj => simpa using hj
  | 2, hj => simpa using hj
  | 3, hj => simpa using hj
  | 4, hj => simpa using hj
  | j + 5, hj => simp at hj

/-- What Put of a mail answers, whichever it is. -/
def MpR (B : Nat) (w : World) (g : Nat) (mf : Option Addr → Nat → Ml) (S : Nat → Prop) (N : Nat) (en : Int) (e : Ending) (w' : World) : Prop :=
  ∃ a' c' S' da dc, e = .returned (.tuple #[.int .i64 (N : Int), .int .i64 en]) ∧ MlO B w' g (mf da dc) a' c' S' ∧ Ch S w w' ∧ (∀ b, S' b → S b ∨ w.heap.size ≤ b)


set_option maxRecDepth 100000 in
set_option maxHeartbeats 16000000 in
theorem step_put0 {w wr : World} {g hm R n : Nat} {m : Ml} {a La : Option Addr} {c lc : Nat} {S T : Nat → Prop} {L : List Sl} (ow : Nat) (on : Int) (F : Fr) (da : Option Addr) (dc : Nat) (hF : MlO w.heap.size wr g m a c S) (hL : LmO w.heap.size wr La lc L T) (hbx : wr.heap[hm]? = some (.cells (smV R La lc L m.wire m.puts) 30 (0, 0))) (hhm : w.heap.size ≤ hm) (hnS : ¬ S hm) (hnT : ¬ T hm) (hTS : ∀ k, T k → ¬ S k) (hb : Below w.heap.size w wr) (hr : (ow : Int) % 8 = 0) (N : Nat) (en : Int) (wi pu : Nat) (mf : Option Addr → Nat → Ml) (Lf : Option Addr → Nat → List Sl)
    (hdat : RL bv wr da F.data.length dc F.data) (F2 : Fr) (G : Nat) (hmg : ∀ ts t w', (Builtin.min_ ts t #[.int .i64 (F.data.length : Int), .int .i64 20]).run Try.prog w' = .ok (.int .i64 (G : Int)) w') (hG1 : G ≤ F.data.length) (hG20 : G ≤ 20) (hF2d : F.data.take G = F2.data) (hF2e : F2.id = F.id ∧ F2.ext = F.ext ∧ F2.rem = F.rem ∧ F2.dlc = F.dlc) (hG2 : F2.data.length = G)
    (hRef : ∀ w1 fa fc T1, LmO w.heap.size w1 La lc L T1 → RL bv w1 fa F2.data.length fc F2.data → (∀ q, fa = some q → T1 q.block) → w.heap.size ≤ w1.heap.size → Calls Try.prog 22 #[.agg (smV R La lc L m.wire m.puts), .agg (frV F2 fa fc)] w1 (RmR w.heap.size w1 R (Lf fa fc) wi pu T1 fun v => .returned (.tuple #[v, .int .i64 (N : Int), .int .i64 en])))
    (hMail : ∀ w1 fa fc, MlO w.heap.size w1 g m a c S → (∀ w', Ch S w1 w' → RL bv w' fa F2.data.length fc F2.data) → Calls Try.prog 17 #[.pointer (some ⟨g, 0, none⟩), .agg (frV F2 fa fc)] w1 (MpR w.heap.size w1 g mf S N en))
    (hMf : ∀ a' c' fa fc, MlI (mf a' c') ∧ MsR (mf a' c') (Lf fa fc) ∧ (mf a' c').room = R ∧ (mf a' c').puts ≤ n ∧ (mf a' c').wire = wi ∧ (mf a' c').puts = pu) :
    Calls Try.prog 6 #[.pointer (some ⟨g, 0, none⟩), .pointer (some ⟨hm, 0, none⟩), .agg (opV10 (ow, ((F, (da, dc)), on)))] wr fun e w' => e = .returned (.bool true) ∧ MtR w g hm R n w' ∧ Ch (fun b => S b ∨ b = hm) wr w' := by
  have hlt : hm < wr.heap.size := bx_lt hbx
  have hSL := hF.sL
  have hSB := hF.sB
  have hTlt := hL.tL
  obtain ⟨W, hW, bW, gW, zW⟩ : ∃ W, Hid (wr.alloc (.cells (opV10 (ow, ((F, (da, dc)), on))) 36) = W) ∧ W.heap[wr.heap.size]? = some (.cells (opV10 (ow, ((F, (da, dc)), on))) 36 (0, 0)) ∧ Below wr.heap.size wr W ∧ wr.heap.size < W.heap.size := ⟨_, rfl, heap_alloc_new wr _, bnew0 wr _, by rw [heap_size_alloc]; omega⟩
  have HRf := hid hRef
  have HMl := hid hMail
  have HMf := hid hMf
  have x0 : W.cell? ⟨wr.heap.size, 0, none⟩ = some (.int .u8 (ow : Int)) := by rw [cell_of_row _ _ 0 _ _ _ bW]; rfl
  have hrX := op_range10 bW
  dsimp only at hrX
  have b1 := heap_alloc_new W (.cells frZr 34)
  have hG6 : G ≤ 1000000 := by omega
  have hby1 : 1 ≤ 64 := by omega
  have HG2 := hid hG2
  have hdatW := hdat.below gW
  have hFW := hF.below gW
  have hLW := hL.below gW
  have mW := bx_below hbx gW
  have hbW := bstep hb gW
  clear hRef hMail hMf hG2 hdat hF hL hbx
  generalize hbE : wr.heap.size = b at *
  have HBE := hid hbE; clear hbE
  go_enter Try.func6, Try.ntmps6
  go_upto_region 13 with (first
    | (rw [hW.out, HBE.out])
    | (with_reducible refine wpList_loadM rowF rfl _ rfl _ _ rfl (frV F da dc) hrX rfl ?_)
    | (with_reducible refine wpList_storeR rowF rfl _ _ rfl _ _ rfl rfl b1 rfl rfl (fr_ones F da dc) ?_
       have g1 : Below W.heap.size W ((W.alloc (.cells frZr 34)).setRow W.heap.size (frV F da dc)) := below_setRow (bnew0 W _) (Nat.le_refl _) _
       have i1 := setRow_heap _ _ _ (frV F da dc) _ _ b1
       have bo1 := bx_below bW g1
       clear b1 hrX
       generalize (W.alloc (.cells frZr 34)).setRow W.heap.size (frV F da dc) = W1 at *
       have z1 : W.heap.size < W1.heap.size := bx_lt i1
       have x5 : (W1.alloc (.cells #[] 5)).cell? ⟨b, 5, none⟩ = some (.slice da F.data.length dc) := by rw [cell_of_row _ b 5 _ _ _ (bx_alloc _ bo1)]; rfl
       have gg1 := bnew g1 (.cells #[] 5)
       have oe := ol_lit bv 5 W.heap.size W1 [] #[] 0 rfl rfl (by omega) (Nat.le_of_lt z1)
       have hba : W.heap.size ≤ (W1.alloc (.cells #[] 5)).heap.size := by rw [heap_size_alloc]; omega)
    | (with_reducible refine wpList_cutTo0 (f := bv) tY rfl _ _ rfl _ _ G rfl rfl rfl hdatW hG1 ?_
       intro ca hca
       rw [hF2d] at hca
       have hca1 := hca.below gg1)
    | (with_reducible refine wpList_app0 (f := bv) tY rfl _ _ rfl rfl oe rfl hca1 hG6 hby1 hba ?_
       intro w2 ia ic o2 g2 hia
       obtain ⟨i3, x24, f2, hiaB, o3, g3⟩ := in_boxF (F2 := F2) g1 i1 g2 o2 HG2.out hF2e
       have gg3 := bstep hbW g3
       have hF3 := hFW.below g3
       have hL3 := hLW.below g3
       have m3 := bx_below mW g3
       clear hFW hLW mW bo1 gg1 oe hba hca hca1 g1 i1 z1 x5 hbW hF2e o2 g2)
    | (with_reducible refine wpList_loadR rowF rfl _ rfl _ rfl i3 rfl ?_
       clear x24 f2
       generalize w2.setCell ⟨W.heap.size, 4, none⟩ (.slice ia G ic) = W3 at *
       have b4 := heap_alloc_new W3 (.cells frZr 34))
    | (with_reducible refine wpList_storeR rowF rfl _ _ rfl _ _ rfl rfl b4 rfl rfl (fr_ones F2 ia ic) ?_
       have g4 : Below W3.heap.size W3 ((W3.alloc (.cells frZr 34)).setRow W3.heap.size (frV F2 ia ic)) := below_setRow (bnew0 W3 _) (Nat.le_refl _) _
       have i4 := setRow_heap _ _ _ (frV F2 ia ic) _ _ b4
       clear b4
       generalize (W3.alloc (.cells frZr 34)).setRow W3.heap.size (frV F2 ia ic) = W4 at *
       have z4 : W3.heap.size < W4.heap.size := bx_lt i4
       have x5 : (W4.alloc (.cells #[] 5)).cell? ⟨W.heap.size, 4, none⟩ = some (.slice ia G ic) := by rw [cell_of_row _ _ 4 _ _ _ (bx_alloc _ (bx_below i3 g4)), ← HG2.out]; rfl
       have oe2 := ol_lit bv 5 W3.heap.size W4 [] #[] 0 rfl rfl (by omega) (Nat.le_of_lt z4)
       have hba2 : W3.heap.size ≤ (W4.alloc (.cells #[] 5)).heap.size := by rw [heap_size_alloc]; omega
       have src2 := ((o3.below g4).alloc (.cells #[] 5)).rl)
    | (with_reducible refine wpList_app0 (f := bv) tY rfl _ _ rfl rfl oe2 rfl src2 hG6 hby1 hba2 ?_
       intro w5 ka kc o5 g5 hka
       obtain ⟨i6, x64, f6, hkaB, o6, g6⟩ := in_boxF (F2 := F2) g4 i4 g5 o5 HG2.out ⟨rfl, rfl, rfl, rfl⟩
       have gg6 := bstep gg3 g6
       have hF6 := hF3.below g6
       have hL6 := hL3.below g6
       have m6 := bx_below m3 g6
       have oI6 := o3.below g6
       have iI6 := bx_below i3 g6
       rw [show (Value.slice ia F2.data.length ic) = .slice ia G ic by rw [HG2.out]] at x64))
  generalize w5.setCell ⟨W3.heap.size, 4, none⟩ (.slice ka G kc) = W6 at *
  have hgs : w.heap.size ≤ W3.heap.size := gg3.size
  have hWW : W.heap.size ≤ W3.heap.size := g3.size
  have hW36 : W3.heap.size < W6.heap.size := bx_lt i6
  have rK6 := o6.rl
  rw [← HG2.out] at rK6
  have hLT : LmO w.heap.size W6 La lc L (fun k => T k ∨ ∃ q, ka = some q ∧ q.block = k) := ⟨hL6.row, hL6.dat, fun q hq => .inl (hL6.ta q hq), fun p hp q hq => .inl (hL6.td p hp q hq), fun k hk => by
      rcases hk with h | ⟨q, hq, rfl⟩
      · exact hL6.tB k h
      · have := (hkaB q hq).1; omega, fun k hk => by
      rcases hk with h | ⟨q, hq, rfl⟩
      · exact hL6.tL k h
      · exact (hkaB q hq).2⟩
  have gW1 : Below wr.heap.size wr W := by rw [HBE.out]; exact gW
  have gr6 := bstep (bstep gW1 g3) g6
  clear i4 g4 z4 x5 oe2 hba2 src2 o5 g5 x64 f6 hF3 hL3 m3 o3 i3 hW gW hL6 gg3 g3
  have hd1 : Below W6.heap.size W6 W6.drew := (Below.refl _ _).drew
  have HS : Below W6.heap.size W6 W6.drew := hd1
  refine Rest.begin (S := fun w' => Below W6.heap.size W6 w') (X := [4, 9, 10]) (by kernel_rfl) ?_
  change Rest _ _ _ _ _ _ _ _ _ W6.drew
  refine Rest.take (i := 0) (v := .pointer (some ⟨hm, 0, none⟩)) rfl (by kernel_rfl) (by kernel_rfl) (by kernel_rfl) (by kernel_rfl) (fun _ _ _ h => h) (.inl HS) (Or.inl ⟨by simp [Region.wanted], ?_⟩) ?_
  · intro w; go_simp
  refine Rest.take (i := 1) (v := .pointer (some ⟨hm, 0, none⟩)) rfl (by kernel_rfl) (by kernel_rfl) (by kernel_rfl) (by kernel_rfl) (fun _ _ _ h => h) (.inl HS) (Or.inl ⟨by simp [Region.wanted], ?_⟩) ?_
  · intro w; go_simp
  refine Rest.takeS (i := 2) (v := .agg (smV R La lc L m.wire m.puts)) rfl (by kernel_rfl) (by kernel_rfl) (by kernel_rfl) (by kernel_rfl) (fun _ _ _ h => h) HS (yields_loadR rowSm (by simp [Region.wanted]) _ rfl hm (by simp [Act.eval, Act.put]) _ rfl (fun w' hw => ⟨_, _, bx_below m6 hw⟩)) ?_
  refine Rest.takeS (i := 3) (v := .agg (frV F2 ka kc)) rfl (by kernel_rfl) (by kernel_rfl) (by kernel_rfl) (by kernel_rfl) (fun _ _ _ h => h) HS (yields_loadR rowF (by simp [Region.wanted]) _ rfl W3.heap.size (by simp [Act.eval, Act.put]) _ rfl (fun w' hw => ⟨_, _, bx_below i6 hw⟩)) ?_
  refine Rest.two (i := 4) (j := 9) (by kernel_rfl) rfl rfl (fun K hK => ?_) (fun K hK => ?_)
  · refine draw_callF 22 (by kernel_rfl) (by simp [Region.wanted]) _ _ _ rfl (by simp [Act.eval]) #[.agg (smV R La lc L m.wire m.puts), .agg (frV F2 ka kc)] (by simp [Act.eval, Act.put]) _ (HRf.out W6.drew ka kc _ (hLT.below hd1) (rK6.below hd1) (fun q hq => Or.inr ⟨q, hq, rfl⟩) (Nat.le_trans hgs (Nat.le_of_lt hW36))) ?_
    rintro e w7 ⟨a7, c7, T7, rfl, l7, g7, t7⟩
    refine ⟨_, rfl, ?_⟩
    have g13 : Below W6.heap.size W6 w7 := bstep hd1 g7
    refine hK _ _ ⟨.inl g13, ?_⟩; clear hK K
    refine Rest.take (i := 5) (v := .tuple #[.agg (smV R a7 c7 (Lf ka kc) wi pu), .int .i64 (N : Int), .int .i64 en]) rfl (by kernel_rfl) (by kernel_rfl) (by kernel_rfl) (by kernel_rfl) (fun _ _ _ h => h) (.inl g13) (Or.inl ⟨by simp [Region.wanted], ?_⟩) ?_
    · intro w; go_simp
    refine Rest.take (i := 6) (v := .agg (smV R a7 c7 (Lf ka kc) wi pu)) rfl (by kernel_rfl) (by kernel_rfl) (by kernel_rfl) (by kernel_rfl) (fun _ _ _ h => h) (.inl g13) (Or.inl ⟨by simp [Region.wanted], ?_⟩) ?_
    · intro w; go_simp
    refine Rest.take (i := 7) (v := .int .i64 (N : Int)) rfl (by kernel_rfl) (by kernel_rfl) (by kernel_rfl) (by kernel_rfl) (fun _ _ _ h => h) (.inl g13) (Or.inl ⟨by simp [Region.wanted], ?_⟩) ?_
    · intro w; go_simp
    refine Rest.take (i := 8) (v := .int .i64 en) rfl (by kernel_rfl) (by kernel_rfl) (by kernel_rfl) (by kernel_rfl) (fun _ _ _ h => h) (.inl g13) (Or.inl ⟨by simp [Region.wanted], ?_⟩) ?_
    · intro w; go_simp
    refine Rest.one (i := 9) (by kernel_rfl) rfl (fun K hK => ?_)
    rw [if_pos (by simp [Region.wanted])]
    go_simp
    refine hK _ _ ⟨.inl (g13.alloc g13.size _), ?_⟩; clear hK K
    refine Rest.one (i := 10) (by kernel_rfl) rfl (fun K hK => ?_)
    (with_reducible refine draw_storeR rowSm ?zp1gd ?zp1x ?zp1y ?zp1o w7.heap.size (smV R a7 c7 (Lf ka kc) wi pu) ?zp1hx ?zp1hy (heap_alloc_new w7 (.cells smZ 30)) ?zp1n ?zp1old (sm_ones _ _ _ _ _ _) ?zp1h)
    case zp1o => exact rfl
    case zp1gd => exact rfl
    case zp1hx => first | (simp [Act.eval]; done) | simp [Act.eval, Act.put]
    case zp1hy => first | (simp [Act.eval]; done) | simp [Act.eval, Act.put]
    case zp1n => rfl
    case zp1old => rfl
    refine hK _ _ ⟨.inr (thru_of (by kernel_rfl)), Rest.of_any _ _ _ _ (thru_of (by kernel_rfl)) ?_⟩; clear hK K
    have f8 := setRow_heap _ _ _ (smV R a7 c7 (Lf ka kc) wi pu) _ _ (heap_alloc_new w7 (.cells smZ 30))
    have g34 : Below w7.heap.size w7 ((w7.alloc (.cells smZ 30)).setRow w7.heap.size (smV R a7 c7 (Lf ka kc) wi pu)) := below_setRow (bnew0 w7 _) (Nat.le_refl _) _
    have g68 : Below W6.heap.size W6 ((w7.alloc (.cells smZ 30)).setRow w7.heap.size (smV R a7 c7 (Lf ka kc) wi pu)) := bstep g13 g34
    have l8 := l7.below g34
    have h3 : ∀ k, W6.drew.heap.size ≤ k → W6.heap.size ≤ k := fun k h => h
    clear g34 g13 g7 l7
    generalize (w7.alloc (.cells smZ 30)).setRow w7.heap.size (smV R a7 c7 (Lf ka kc) wi pu) = w8 at *
    refine wpAny_take (i := 11) (v := .int .i64 (N : Int)) rfl (by kernel_rfl) (by kernel_rfl) (by kernel_rfl) (fun _ _ _ h => h) (Or.inl ⟨by simp [Region.wanted], ?_⟩) ?_
    · intro w; go_simp
    refine wpAny_take (i := 12) (v := .int .i64 en) rfl (by kernel_rfl) (by kernel_rfl) (by kernel_rfl) (fun _ _ _ h => h) (Or.inl ⟨by simp [Region.wanted], ?_⟩) ?_
    · intro w; go_simp
    refine wpAny_done (by kernel_rfl) ?_ _
    have m8 := bx_below m6 g68
    have iI8 := bx_below iI6 g68
    have oI8 := oI6.below g68
    have hF8 := hF6.below g68
    have gg8 := bstep gg6 g68
    have z68 := g68.size
    have gr8 := bstep gr6 g68
    have hT7 : ∀ k, T7 k → ¬ S k ∧ k ≠ hm ∧ ∀ q, ia = some q → q.block ≠ k := fun k hk => by
      rcases t7 k hk with (h | ⟨q, hq, rfl⟩) | h
      · have h1 := hTlt k h
        exact ⟨hTS k h, fun e => hnT (by rw [← e]; exact h), fun q hq => by have := (hiaB q hq).1; omega⟩
      · have h1 := (hkaB q hq).1
        exact ⟨fun e => by have := hSL _ e; omega, by omega, fun q2 hq2 => by have := (hiaB q2 hq2).2; omega⟩
      · have h2 := h3 k h
        exact ⟨fun e => by have := hSL _ e; omega, by omega, fun q2 hq2 => by have := (hiaB q2 hq2).2; omega⟩
    have hiaS : ∀ q, ia = some q → ¬ S q.block := fun q hq e => by have := hSL _ e; have := (hiaB q hq).1; omega
    have hiS : ¬ S W.heap.size := fun e => by have := hSL _ e; omega
    clear m6 iI6 oI6 hF6 gg6 i6 o6 hLT rK6 HS hd1 t7 h3 hTlt g68
    go_upto_region 16 with (first
      | (with_reducible refine wpList_loadR rowSm rfl _ rfl _ rfl f8 rfl ?_)
      | (with_reducible refine wpList_storeR rowSm rfl _ _ rfl _ _ rfl rfl m8 rfl rfl (sm_ones _ _ _ _ _ _) ?_
         have k9 : Ch (fun b => b = hm) w8 (w8.setRow hm (smV R a7 c7 (Lf ka kc) wi pu)) := (Ch.refl (fun b => b = hm) w8).setRow (.inl rfl) _
         have hF9 := hF8.ch k9 (fun b hb e => hnS (e ▸ hb))
         have l9 := l8.ch k9 (fun b hb e => (hT7 b hb).2.1 e)
         have m9 := setRow_heap _ _ _ (smV R a7 c7 (Lf ka kc) wi pu) _ _ m8
         have iI9 := k9.bx iI8 (by omega)
         have oI9 := oI8.ch k9 (fun q hq e => by have := (hiaB q hq).1; omega)
         have gg9 := k9.below gg8 (Nat.le_refl _) (fun b hb => by rw [hb]; exact hhm)
         have z9 := k9.size
         clear hF8 l8 m8 oI8 iI8 gg8 f8
         generalize w8.setRow hm (smV R a7 c7 (Lf ka kc) wi pu) = W9 at *)
      | (with_reducible refine wpList_loadR rowF rfl _ rfl _ rfl iI9 rfl ?_)
      | (go_at_call 17; (with_reducible refine Calls.mono (HMl.out W9 ia ic hF9 (fun w' k => (by rw [HG2.out]; exact (oI9.ch k hiaS).rl))) ?_); rintro e w10 ⟨a10, c10, S10, d10, e10, rfl, h10, k10, hS10⟩))
    have hL10 := l9.ch k10 (fun b hb => (hT7 b hb).1)
    have m10 := k10.bx m9 hnS
    have iI10 := k10.bx iI9 hiS
    have oI10 := oI9.ch k10 hiaS
    have gg10 := k10.below gg9 (Nat.le_refl _) hSB
    have z910 := k10.size
    have kch := mt_ch (hm := hm) gr8 k9 k10
    have hbs : ∀ q, ia = some q → wr.heap.size ≤ q.block := fun q hq => by rw [HBE.out]; have := (hiaB q hq).1; omega
    have hTL9 := l9.tL
    have hSia : ∀ q, ia = some q → ¬ S10 q.block := fun q hq e => by
      rcases hS10 _ e with h | h
      · exact hiaS q hq h
      · have := (hiaB q hq).2; omega
    have hShm : ¬ S10 hm := fun e => by
      rcases hS10 _ e with h | h
      · exact hnS h
      · omega
    have hTS10 : ∀ k, T7 k → ¬ S10 k := fun k hk e => by
      rcases hS10 _ e with h | h
      · exact (hT7 k hk).1 h
      · have := hTL9 k hk; omega
    obtain ⟨hI', hM', hR', hn', hwi, hpu⟩ := HMf.out d10 e10 ka kc
    clear hF9 l9 m9 oI9 iI9 gg9 hTL9 hS10 k10
    have x4 := (bx5 iI10).2.2.2.2
    rw [show (Value.slice ia F2.data.length ic) = .slice ia G ic by rw [HG2.out]] at x4
    go_wp2
    clear x4
    obtain ⟨w20, hw20⟩ : ∃ w20, w20 = w10 := ⟨_, rfl⟩
    rw [← hw20]
    rw [← hw20] at iI10 h10 hL10 oI10 m10 gg10 z910 kch
    clear hw20
    go_loopg [106] G (fun gn vi wr => ∃ (k : Nat) (l' : List UInt8), k ≤ G ∧ gn = G - k ∧ vi = .int .i64 (k : Int) ∧ OL bv 5 W.heap.size wr ia G ic l' ∧ Ch (fun b => ∃ q, ia = some q ∧ q.block = b) w20 wr)
    case atStart => exact ⟨0, F2.data, by omega, by omega, rfl, oI10, Ch.refl _ _⟩
    case round =>
      obtain ⟨k, l', hk, rfl, rfl, hO, kD⟩ := hrel
      have bx4 := kD.bx iI10 (fun ⟨q, e1, e2⟩ => by have := (hiaB q e1).1; omega)
      have x4 := (bx5 bx4).2.2.2.2
      rw [show (Value.slice ia F2.data.length ic) = .slice ia G ic by rw [HG2.out]] at x4
      by_cases hkl : k < G
      · rcases hO.ex with ⟨_, h0, _⟩ | ⟨gx, cur, hxa, hBx, hhx, hcx⟩
        · omega
        · obtain ⟨v, hv⟩ : ∃ v, l'[k]? = some v := ⟨_, List.getElem?_eq_getElem (by rw [hO.len]; exact hkl)⟩
          rw [hxa] at x4
          have hO2 := hO
          rw [hxa] at hO2
          obtain ⟨c1, c2⟩ := hO2.cellAt hv
          unfold bv at c1
          obtain ⟨z, hz⟩ : ∃ z : UInt8, ((v.toNat : Int) + 1) % 256 = (z.toNat : Int) := ⟨v + 1, by rw [UInt8.toNat_add]; show _ = (((v.toNat + 1) % 256 : Nat) : Int); omega⟩
          have hO3 : OL bv 5 W.heap.size (wr.setCell ⟨gx, k, none⟩ (.int .u8 (z.toNat : Int))) (some ⟨gx, 0, none⟩) G ic (l'.set k z) := hO2.set z
          have kD3 : Ch (fun b => ∃ q, ia = some q ∧ q.block = b) w20 (wr.setCell ⟨gx, k, none⟩ (.int .u8 (z.toNat : Int))) := kD.setCell (p := ⟨gx, k, none⟩) (.inl ⟨_, hxa, rfl⟩) _
          rw [← hxa] at hO3
          have HXA := hid hxa
          clear hxa hhx hv bx4 hO hO2 oI10
          go_wp2
          go_roundg (G - (k + 1))
          case measure => omega
          case rel => exact ⟨k + 1, _, by omega, rfl, by go_num, hO3, kD3⟩
      · obtain rfl : G = k := by omega
        go_wp2
        go_ret
        exact ⟨rfl, ⟨mf d10 e10, a10, c10, S10, a7, c7, Lf ka kc, T7, h10.ch kD (fun b hb ⟨q, e1, e2⟩ => hSia q e1 (by rw [e2]; exact hb)), hI', hL10.ch kD (fun b hb ⟨q, e1, e2⟩ => (hT7 b hb).2.2 q e1 e2), hM', hR', hn', by rw [hwi, hpu]; exact kD.bx m10 (fun ⟨q, e1, e2⟩ => by have := (hiaB q e1).1; omega), hhm, hShm, fun e => (hT7 _ e).2.1 rfl, hTS10, kD.below gg10 (Nat.le_refl _) (fun b ⟨q, e1, e2⟩ => by have := (hiaB q e1).1; omega)⟩, kch.trans kD (fun b ⟨q, e1, e2⟩ => .inr (by rw [← e2]; exact hbs q e1))⟩
  · rw [if_pos (by simp [Region.wanted])]
    go_simp
    have hd2 : Below W6.heap.size W6 (W6.drew.alloc (.cells smZ 30)) := hd1.alloc hd1.size _
    refine hK _ _ ⟨.inl hd2, ?_⟩; clear hK K
    refine Rest.one (i := 4) (by kernel_rfl) rfl (fun K hK => ?_)
    refine draw_callF 22 (by kernel_rfl) (by simp [Region.wanted]) _ _ _ rfl (by simp [Act.eval]) #[.agg (smV R La lc L m.wire m.puts), .agg (frV F2 ka kc)] (by simp [Act.eval, Act.put]) _ (HRf.out (W6.drew.alloc (.cells smZ 30)) ka kc _ (hLT.below hd2) (rK6.below hd2) (fun q hq => Or.inr ⟨q, hq, rfl⟩) (Nat.le_trans (Nat.le_trans hgs (Nat.le_of_lt hW36)) hd2.size)) ?_
    rintro e w7 ⟨a7, c7, T7, rfl, l7, g7, t7⟩
    refine ⟨_, rfl, ?_⟩
    have g13 : Below W6.heap.size W6 w7 := bstep hd2 g7
    refine hK _ _ ⟨.inl g13, ?_⟩; clear hK K
    refine Rest.take (i := 5) (v := .tuple #[.agg (smV R a7 c7 (Lf ka kc) wi pu), .int .i64 (N : Int), .int .i64 en]) rfl (by kernel_rfl) (by kernel_rfl) (by kernel_rfl) (by kernel_rfl) (fun _ _ _ h => h) (.inl g13) (Or.inl ⟨by simp [Region.wanted], ?_⟩) ?_
    · intro w; go_simp
    refine Rest.take (i := 6) (v := .agg (smV R a7 c7 (Lf ka kc) wi pu)) rfl (by kernel_rfl) (by kernel_rfl) (by kernel_rfl) (by kernel_rfl) (fun _ _ _ h => h) (.inl g13) (Or.inl ⟨by simp [Region.wanted], ?_⟩) ?_
    · intro w; go_simp
    refine Rest.take (i := 7) (v := .int .i64 (N : Int)) rfl (by kernel_rfl) (by kernel_rfl) (by kernel_rfl) (by kernel_rfl) (fun _ _ _ h => h) (.inl g13) (Or.inl ⟨by simp [Region.wanted], ?_⟩) ?_
    · intro w; go_simp
    refine Rest.take (i := 8) (v := .int .i64 en) rfl (by kernel_rfl) (by kernel_rfl) (by kernel_rfl) (by kernel_rfl) (fun _ _ _ h => h) (.inl g13) (Or.inl ⟨by simp [Region.wanted], ?_⟩) ?_
    · intro w; go_simp
    have f3 : w7.heap[W6.heap.size]? = some (.cells smZ 30 (0, 0)) := bx_below (heap_alloc_new W6.drew _) g7
    refine Rest.one (i := 10) (by kernel_rfl) rfl (fun K hK => ?_)
    (with_reducible refine draw_storeR rowSm ?zp2gd ?zp2x ?zp2y ?zp2o W6.heap.size (smV R a7 c7 (Lf ka kc) wi pu) ?zp2hx ?zp2hy f3 ?zp2n ?zp2old (sm_ones _ _ _ _ _ _) ?zp2h)
    case zp2o => exact rfl
    case zp2gd => exact rfl
    case zp2hx => first | (simp [Act.eval]; done) | simp [Act.eval, Act.put]
    case zp2hy => first | (simp [Act.eval]; done) | simp [Act.eval, Act.put]
    case zp2n => rfl
    case zp2old => rfl
    refine hK _ _ ⟨.inr (thru_of (by kernel_rfl)), Rest.of_any _ _ _ _ (thru_of (by kernel_rfl)) ?_⟩; clear hK K
    have f8 := setRow_heap _ _ _ (smV R a7 c7 (Lf ka kc) wi pu) _ _ f3
    have g68 : Below W6.heap.size W6 (w7.setRow W6.heap.size (smV R a7 c7 (Lf ka kc) wi pu)) := below_setRow g13 (Nat.le_refl _) _
    have h3 : ∀ k, (W6.drew.alloc (.cells smZ 30)).heap.size ≤ k → W6.heap.size ≤ k := fun k h => Nat.le_trans hd2.size h
    have hz2 : (W6.drew.alloc (.cells smZ 30)).heap.size = W6.heap.size + 1 := by rw [heap_size_alloc]; rfl
    have hTL1 := hLT.tL
    have l8 := l7.ch ((Ch.refl (fun b => b = W6.heap.size) w7).setRow (.inl rfl) (smV R a7 c7 (Lf ka kc) wi pu)) (fun b hb e => by rcases t7 b hb with h | h; (have := hTL1 b h; omega); omega)
    clear f3 hz2 hTL1 g13 g7 l7 hd2
    generalize w7.setRow W6.heap.size (smV R a7 c7 (Lf ka kc) wi pu) = w8 at *
    refine wpAny_take (i := 11) (v := .int .i64 (N : Int)) rfl (by kernel_rfl) (by kernel_rfl) (by kernel_rfl) (fun _ _ _ h => h) (Or.inl ⟨by simp [Region.wanted], ?_⟩) ?_
    · intro w; go_simp
    refine wpAny_take (i := 12) (v := .int .i64 en) rfl (by kernel_rfl) (by kernel_rfl) (by kernel_rfl) (fun _ _ _ h => h) (Or.inl ⟨by simp [Region.wanted], ?_⟩) ?_
    · intro w; go_simp
    refine wpAny_done (by kernel_rfl) ?_ _
    have m8 := bx_below m6 g68
    have iI8 := bx_below iI6 g68
    have oI8 := oI6.below g68
    have hF8 := hF6.below g68
    have gg8 := bstep gg6 g68
    have z68 := g68.size
    have gr8 := bstep gr6 g68
    have hT7 : ∀ k, T7 k → ¬ S k ∧ k ≠ hm ∧ ∀ q, ia = some q → q.block ≠ k := fun k hk => by
      rcases t7 k hk with (h | ⟨q, hq, rfl⟩) | h
      · have h1 := hTlt k h
        exact ⟨hTS k h, fun e => hnT (by rw [← e]; exact h), fun q hq => by have := (hiaB q hq).1; omega⟩
      · have h1 := (hkaB q hq).1
        exact ⟨fun e => by have := hSL _ e; omega, by omega, fun q2 hq2 => by have := (hiaB q2 hq2).2; omega⟩
      · have h2 := h3 k h
        exact ⟨fun e => by have := hSL _ e; omega, by omega, fun q2 hq2 => by have := (hiaB q2 hq2).2; omega⟩
    have hiaS : ∀ q, ia = some q → ¬ S q.block := fun q hq e => by have := hSL _ e; have := (hiaB q hq).1; omega
    have hiS : ¬ S W.heap.size := fun e => by have := hSL _ e; omega
    clear m6 iI6 oI6 hF6 gg6 i6 o6 hLT rK6 HS hd1 t7 h3 hTlt g68
    go_upto_region 16 with (first
      | (with_reducible refine wpList_loadR rowSm rfl _ rfl _ rfl f8 rfl ?_)
      | (with_reducible refine wpList_storeR rowSm rfl _ _ rfl _ _ rfl rfl m8 rfl rfl (sm_ones _ _ _ _ _ _) ?_
         have k9 : Ch (fun b => b = hm) w8 (w8.setRow hm (smV R a7 c7 (Lf ka kc) wi pu)) := (Ch.refl (fun b => b = hm) w8).setRow (.inl rfl) _
         have hF9 := hF8.ch k9 (fun b hb e => hnS (e ▸ hb))
         have l9 := l8.ch k9 (fun b hb e => (hT7 b hb).2.1 e)
         have m9 := setRow_heap _ _ _ (smV R a7 c7 (Lf ka kc) wi pu) _ _ m8
         have iI9 := k9.bx iI8 (by omega)
         have oI9 := oI8.ch k9 (fun q hq e => by have := (hiaB q hq).1; omega)
         have gg9 := k9.below gg8 (Nat.le_refl _) (fun b hb => by rw [hb]; exact hhm)
         have z9 := k9.size
         clear hF8 l8 m8 oI8 iI8 gg8 f8
         generalize w8.setRow hm (smV R a7 c7 (Lf ka kc) wi pu) = W9 at *)
      | (with_reducible refine wpList_loadR rowF rfl _ rfl _ rfl iI9 rfl ?_)
      | (go_at_call 17; (with_reducible refine Calls.mono (HMl.out W9 ia ic hF9 (fun w' k => (by rw [HG2.out]; exact (oI9.ch k hiaS).rl))) ?_); rintro e w10 ⟨a10, c10, S10, d10, e10, rfl, h10, k10, hS10⟩))
    have hL10 := l9.ch k10 (fun b hb => (hT7 b hb).1)
    have m10 := k10.bx m9 hnS
    have iI10 := k10.bx iI9 hiS
    have oI10 := oI9.ch k10 hiaS
    have gg10 := k10.below gg9 (Nat.le_refl _) hSB
    have z910 := k10.size
    have kch := mt_ch (hm := hm) gr8 k9 k10
    have hbs : ∀ q, ia = some q → wr.heap.size ≤ q.block := fun q hq => by rw [HBE.out]; have := (hiaB q hq).1; omega
    have hTL9 := l9.tL
    have hSia : ∀ q, ia = some q → ¬ S10 q.block := fun q hq e => by
      rcases hS10 _ e with h | h
      · exact hiaS q hq h
      · have := (hiaB q hq).2; omega
    have hShm : ¬ S10 hm := fun e => by
      rcases hS10 _ e with h | h
      · exact hnS h
      · omega
    have hTS10 : ∀ k, T7 k → ¬ S10 k := fun k hk e => by
      rcases hS10 _ e with h | h
      · exact (hT7 k hk).1 h
      · have := hTL9 k hk; omega
    obtain ⟨hI', hM', hR', hn', hwi, hpu⟩ := HMf.out d10 e10 ka kc
    clear hF9 l9 m9 oI9 iI9 gg9 hTL9 hS10 k10
    have x4 := (bx5 iI10).2.2.2.2
    rw [show (Value.slice ia F2.data.length ic) = .slice ia G ic by rw [HG2.out]] at x4
    go_wp2
    clear x4
    obtain ⟨w20, hw20⟩ : ∃ w20, w20 = w10 := ⟨_, rfl⟩
    rw [← hw20]
    rw [← hw20] at iI10 h10 hL10 oI10 m10 gg10 z910 kch
    clear hw20
    go_loopg [106] G (fun gn vi wr => ∃ (k : Nat) (l' : List UInt8), k ≤ G ∧ gn = G - k ∧ vi = .int .i64 (k : Int) ∧ OL bv 5 W.heap.size wr ia G ic l' ∧ Ch (fun b => ∃ q, ia = some q ∧ q.block = b) w20 wr)
    case atStart => exact ⟨0, F2.data, by omega, by omega, rfl, oI10, Ch.refl _ _⟩
    case round =>
      obtain ⟨k, l', hk, rfl, rfl, hO, kD⟩ := hrel
      have bx4 := kD.bx iI10 (fun ⟨q, e1, e2⟩ => by have := (hiaB q e1).1; omega)
      have x4 := (bx5 bx4).2.2.2.2
      rw [show (Value.slice ia F2.data.length ic) = .slice ia G ic by rw [HG2.out]] at x4
      by_cases hkl : k < G
      · rcases hO.ex with ⟨_, h0, _⟩ | ⟨gx, cur, hxa, hBx, hhx, hcx⟩
        · omega
        · obtain ⟨v, hv⟩ : ∃ v, l'[k]? = some v := ⟨_, List.getElem?_eq_getElem (by rw [hO.len]; exact hkl)⟩
          rw [hxa] at x4
          have hO2 := hO
          rw [hxa] at hO2
          obtain ⟨c1, c2⟩ := hO2.cellAt hv
          unfold bv at c1
          obtain ⟨z, hz⟩ : ∃ z : UInt8, ((v.toNat : Int) + 1) % 256 = (z.toNat : Int) := ⟨v + 1, by rw [UInt8.toNat_add]; show _ = (((v.toNat + 1) % 256 : Nat) : Int); omega⟩
          have hO3 : OL bv 5 W.heap.size (wr.setCell ⟨gx, k, none⟩ (.int .u8 (z.toNat : Int))) (some ⟨gx, 0, none⟩) G ic (l'.set k z) := hO2.set z
          have kD3 : Ch (fun b => ∃ q, ia = some q ∧ q.block = b) w20 (wr.setCell ⟨gx, k, none⟩ (.int .u8 (z.toNat : Int))) := kD.setCell (p := ⟨gx, k, none⟩) (.inl ⟨_, hxa, rfl⟩) _
          rw [← hxa] at hO3
          have HXA := hid hxa
          clear hxa hhx hv bx4 hO hO2 oI10
          go_wp2
          go_roundg (G - (k + 1))
          case measure => omega
          case rel => exact ⟨k + 1, _, by omega, rfl, by go_num, hO3, kD3⟩
      · obtain rfl : G = k := by omega
        go_wp2
        go_ret
        exact ⟨rfl, ⟨mf d10 e10, a10, c10, S10, a7, c7, Lf ka kc, T7, h10.ch kD (fun b hb ⟨q, e1, e2⟩ => hSia q e1 (by rw [e2]; exact hb)), hI', hL10.ch kD (fun b hb ⟨q, e1, e2⟩ => (hT7 b hb).2.2 q e1 e2), hM', hR', hn', by rw [hwi, hpu]; exact kD.bx m10 (fun ⟨q, e1, e2⟩ => by have := (hiaB q e1).1; omega), hhm, hShm, fun e => (hT7 _ e).2.1 rfl, hTS10, kD.below gg10 (Nat.le_refl _) (fun b ⟨q, e1, e2⟩ => by have := (hiaB q e1).1; omega)⟩, kch.trans kD (fun b ⟨q, e1, e2⟩ => .inr (by rw [← e2]; exact hbs q e1))⟩

set_option maxRecDepth 100000 in
set_option maxHeartbeats 16000000 in
theorem step_put1 {w wr : World} {g hm R n : Nat} {m : Ml} {a La : Option Addr} {c lc : Nat} {S T : Nat → Prop} {L : List Sl} (ow : Nat) (on : Int) (F : Fr) (da : Option Addr) (dc : Nat) (hF : MlO w.heap.size wr g m a c S) (hL : LmO w.heap.size wr La lc L T) (hbx : wr.heap[hm]? = some (.cells (smV R La lc L m.wire m.puts) 30 (0, 0))) (hhm : w.heap.size ≤ hm) (hnS : ¬ S hm) (hnT : ¬ T hm) (hTS : ∀ k, T k → ¬ S k) (hb : Below w.heap.size w wr) (hr : (ow : Int) % 8 = 1) (N : Nat) (en : Int) (wi pu : Nat) (mf : Option Addr → Nat → Ml) (Lf : Option Addr → Nat → List Sl)
    (hdat : RL bv wr da F.data.length dc F.data) (F2 : Fr) (G : Nat) (hmg : ∀ ts t w', (Builtin.min_ ts t #[.int .i64 (F.data.length : Int), .int .i64 20]).run Try.prog w' = .ok (.int .i64 (G : Int)) w') (hG1 : G ≤ F.data.length) (hG20 : G ≤ 20) (hF2d : F.data.take G = F2.data) (hF2e : F2.id = F.id ∧ F2.ext = F.ext ∧ F2.rem = F.rem ∧ F2.dlc = F.dlc) (hG2 : F2.data.length = G)
    (hRef : ∀ w1 fa fc T1, LmO w.heap.size w1 La lc L T1 → RL bv w1 fa F2.data.length fc F2.data → (∀ q, fa = some q → T1 q.block) → w.heap.size ≤ w1.heap.size → Calls Try.prog 22 #[.agg (smV R La lc L m.wire m.puts), .agg (frV F2 fa fc)] w1 (RmR w.heap.size w1 R (Lf fa fc) wi pu T1 fun v => .returned (.tuple #[v, .int .i64 (N : Int), .int .i64 en])))
    (hMail : ∀ w1 fa fc, MlO w.heap.size w1 g m a c S → (∀ w', Ch S w1 w' → RL bv w' fa F2.data.length fc F2.data) → Calls Try.prog 17 #[.pointer (some ⟨g, 0, none⟩), .agg (frV F2 fa fc)] w1 (MpR w.heap.size w1 g mf S N en))
    (hMf : ∀ a' c' fa fc, MlI (mf a' c') ∧ MsR (mf a' c') (Lf fa fc) ∧ (mf a' c').room = R ∧ (mf a' c').puts ≤ n ∧ (mf a' c').wire = wi ∧ (mf a' c').puts = pu) :
    Calls Try.prog 6 #[.pointer (some ⟨g, 0, none⟩), .pointer (some ⟨hm, 0, none⟩), .agg (opV10 (ow, ((F, (da, dc)), on)))] wr fun e w' => e = .returned (.bool true) ∧ MtR w g hm R n w' ∧ Ch (fun b => S b ∨ b = hm) wr w' := by
  have hlt : hm < wr.heap.size := bx_lt hbx
  have hSL := hF.sL
  have hSB := hF.sB
  have hTlt := hL.tL
  obtain ⟨W, hW, bW, gW, zW⟩ : ∃ W, Hid (wr.alloc (.cells (opV10 (ow, ((F, (da, dc)), on))) 36) = W) ∧ W.heap[wr.heap.size]? = some (.cells (opV10 (ow, ((F, (da, dc)), on))) 36 (0, 0)) ∧ Below wr.heap.size wr W ∧ wr.heap.size < W.heap.size := ⟨_, rfl, heap_alloc_new wr _, bnew0 wr _, by rw [heap_size_alloc]; omega⟩
  have HRf := hid hRef
  have HMl := hid hMail
  have HMf := hid hMf
  have x0 : W.cell? ⟨wr.heap.size, 0, none⟩ = some (.int .u8 (ow : Int)) := by rw [cell_of_row _ _ 0 _ _ _ bW]; rfl
  have hrX := op_range10 bW
  dsimp only at hrX
  have b1 := heap_alloc_new W (.cells frZr 34)
  have hG6 : G ≤ 1000000 := by omega
  have hby1 : 1 ≤ 64 := by omega
  have HG2 := hid hG2
  have hdatW := hdat.below gW
  have hFW := hF.below gW
  have hLW := hL.below gW
  have mW := bx_below hbx gW
  have hbW := bstep hb gW
  clear hRef hMail hMf hG2 hdat hF hL hbx
  generalize hbE : wr.heap.size = b at *
  have HBE := hid hbE; clear hbE
  go_enter Try.func6, Try.ntmps6
  go_upto_region 13 with (first
    | (rw [hW.out, HBE.out])
    | (with_reducible refine wpList_loadM rowF rfl _ rfl _ _ rfl (frV F da dc) hrX rfl ?_)
    | (with_reducible refine wpList_storeR rowF rfl _ _ rfl _ _ rfl rfl b1 rfl rfl (fr_ones F da dc) ?_
       have g1 : Below W.heap.size W ((W.alloc (.cells frZr 34)).setRow W.heap.size (frV F da dc)) := below_setRow (bnew0 W _) (Nat.le_refl _) _
       have i1 := setRow_heap _ _ _ (frV F da dc) _ _ b1
       have bo1 := bx_below bW g1
       clear b1 hrX
       generalize (W.alloc (.cells frZr 34)).setRow W.heap.size (frV F da dc) = W1 at *
       have z1 : W.heap.size < W1.heap.size := bx_lt i1
       have x5 : (W1.alloc (.cells #[] 5)).cell? ⟨b, 5, none⟩ = some (.slice da F.data.length dc) := by rw [cell_of_row _ b 5 _ _ _ (bx_alloc _ bo1)]; rfl
       have gg1 := bnew g1 (.cells #[] 5)
       have oe := ol_lit bv 5 W.heap.size W1 [] #[] 0 rfl rfl (by omega) (Nat.le_of_lt z1)
       have hba : W.heap.size ≤ (W1.alloc (.cells #[] 5)).heap.size := by rw [heap_size_alloc]; omega)
    | (with_reducible refine wpList_cutTo0 (f := bv) tY rfl _ _ rfl _ _ G rfl rfl rfl hdatW hG1 ?_
       intro ca hca
       rw [hF2d] at hca
       have hca1 := hca.below gg1)
    | (with_reducible refine wpList_app0 (f := bv) tY rfl _ _ rfl rfl oe rfl hca1 hG6 hby1 hba ?_
       intro w2 ia ic o2 g2 hia
       obtain ⟨i3, x24, f2, hiaB, o3, g3⟩ := in_boxF (F2 := F2) g1 i1 g2 o2 HG2.out hF2e
       have gg3 := bstep hbW g3
       have hF3 := hFW.below g3
       have hL3 := hLW.below g3
       have m3 := bx_below mW g3
       clear hFW hLW mW bo1 gg1 oe hba hca hca1 g1 i1 z1 x5 hbW hF2e o2 g2)
    | (with_reducible refine wpList_loadR rowF rfl _ rfl _ rfl i3 rfl ?_
       clear x24 f2
       generalize w2.setCell ⟨W.heap.size, 4, none⟩ (.slice ia G ic) = W3 at *
       have b4 := heap_alloc_new W3 (.cells frZr 34))
    | (with_reducible refine wpList_storeR rowF rfl _ _ rfl _ _ rfl rfl b4 rfl rfl (fr_ones F2 ia ic) ?_
       have g4 : Below W3.heap.size W3 ((W3.alloc (.cells frZr 34)).setRow W3.heap.size (frV F2 ia ic)) := below_setRow (bnew0 W3 _) (Nat.le_refl _) _
       have i4 := setRow_heap _ _ _ (frV F2 ia ic) _ _ b4
       clear b4
       generalize (W3.alloc (.cells frZr 34)).setRow W3.heap.size (frV F2 ia ic) = W4 at *
       have z4 : W3.heap.size < W4.heap.size := bx_lt i4
       have x5 : (W4.alloc (.cells #[] 5)).cell? ⟨W.heap.size, 4, none⟩ = some (.slice ia G ic) := by rw [cell_of_row _ _ 4 _ _ _ (bx_alloc _ (bx_below i3 g4)), ← HG2.out]; rfl
       have oe2 := ol_lit bv 5 W3.heap.size W4 [] #[] 0 rfl rfl (by omega) (Nat.le_of_lt z4)
       have hba2 : W3.heap.size ≤ (W4.alloc (.cells #[] 5)).heap.size := by rw [heap_size_alloc]; omega
       have src2 := ((o3.below g4).alloc (.cells #[] 5)).rl)
    | (with_reducible refine wpList_app0 (f := bv) tY rfl _ _ rfl rfl oe2 rfl src2 hG6 hby1 hba2 ?_
       intro w5 ka kc o5 g5 hka
       obtain ⟨i6, x64, f6, hkaB, o6, g6⟩ := in_boxF (F2 := F2) g4 i4 g5 o5 HG2.out ⟨rfl, rfl, rfl, rfl⟩
       have gg6 := bstep gg3 g6
       have hF6 := hF3.below g6
       have hL6 := hL3.below g6
       have m6 := bx_below m3 g6
       have oI6 := o3.below g6
       have iI6 := bx_below i3 g6
       rw [show (Value.slice ia F2.data.length ic) = .slice ia G ic by rw [HG2.out]] at x64))
  generalize w5.setCell ⟨W3.heap.size, 4, none⟩ (.slice ka G kc) = W6 at *
  have hgs : w.heap.size ≤ W3.heap.size := gg3.size
  have hWW : W.heap.size ≤ W3.heap.size := g3.size
  have hW36 : W3.heap.size < W6.heap.size := bx_lt i6
  have rK6 := o6.rl
  rw [← HG2.out] at rK6
  have hLT : LmO w.heap.size W6 La lc L (fun k => T k ∨ ∃ q, ka = some q ∧ q.block = k) := ⟨hL6.row, hL6.dat, fun q hq => .inl (hL6.ta q hq), fun p hp q hq => .inl (hL6.td p hp q hq), fun k hk => by
      rcases hk with h | ⟨q, hq, rfl⟩
      · exact hL6.tB k h
      · have := (hkaB q hq).1; omega, fun k hk => by
      rcases hk with h | ⟨q, hq, rfl⟩
      · exact hL6.tL k h
      · exact (hkaB q hq).2⟩
  have gW1 : Below wr.heap.size wr W := by rw [HBE.out]; exact gW
  have gr6 := bstep (bstep gW1 g3) g6
  clear i4 g4 z4 x5 oe2 hba2 src2 o5 g5 x64 f6 hF3 hL3 m3 o3 i3 hW gW hL6 gg3 g3
  have hd1 : Below W6.heap.size W6 W6.drew := (Below.refl _ _).drew
  have HS : Below W6.heap.size W6 W6.drew := hd1
  refine Rest.begin (S := fun w' => Below W6.heap.size W6 w') (X := [4, 9, 10]) (by kernel_rfl) ?_
  change Rest _ _ _ _ _ _ _ _ _ W6.drew
  refine Rest.take (i := 0) (v := .pointer (some ⟨hm, 0, none⟩)) rfl (by kernel_rfl) (by kernel_rfl) (by kernel_rfl) (by kernel_rfl) (fun _ _ _ h => h) (.inl HS) (Or.inl ⟨by simp [Region.wanted], ?_⟩) ?_
  · intro w; go_simp
  refine Rest.take (i := 1) (v := .pointer (some ⟨hm, 0, none⟩)) rfl (by kernel_rfl) (by kernel_rfl) (by kernel_rfl) (by kernel_rfl) (fun _ _ _ h => h) (.inl HS) (Or.inl ⟨by simp [Region.wanted], ?_⟩) ?_
  · intro w; go_simp
  refine Rest.takeS (i := 2) (v := .agg (smV R La lc L m.wire m.puts)) rfl (by kernel_rfl) (by kernel_rfl) (by kernel_rfl) (by kernel_rfl) (fun _ _ _ h => h) HS (yields_loadR rowSm (by simp [Region.wanted]) _ rfl hm (by simp [Act.eval, Act.put]) _ rfl (fun w' hw => ⟨_, _, bx_below m6 hw⟩)) ?_
  refine Rest.takeS (i := 3) (v := .agg (frV F2 ka kc)) rfl (by kernel_rfl) (by kernel_rfl) (by kernel_rfl) (by kernel_rfl) (fun _ _ _ h => h) HS (yields_loadR rowF (by simp [Region.wanted]) _ rfl W3.heap.size (by simp [Act.eval, Act.put]) _ rfl (fun w' hw => ⟨_, _, bx_below i6 hw⟩)) ?_
  refine Rest.two (i := 4) (j := 9) (by kernel_rfl) rfl rfl (fun K hK => ?_) (fun K hK => ?_)
  · refine draw_callF 22 (by kernel_rfl) (by simp [Region.wanted]) _ _ _ rfl (by simp [Act.eval]) #[.agg (smV R La lc L m.wire m.puts), .agg (frV F2 ka kc)] (by simp [Act.eval, Act.put]) _ (HRf.out W6.drew ka kc _ (hLT.below hd1) (rK6.below hd1) (fun q hq => Or.inr ⟨q, hq, rfl⟩) (Nat.le_trans hgs (Nat.le_of_lt hW36))) ?_
    rintro e w7 ⟨a7, c7, T7, rfl, l7, g7, t7⟩
    refine ⟨_, rfl, ?_⟩
    have g13 : Below W6.heap.size W6 w7 := bstep hd1 g7
    refine hK _ _ ⟨.inl g13, ?_⟩; clear hK K
    refine Rest.take (i := 5) (v := .tuple #[.agg (smV R a7 c7 (Lf ka kc) wi pu), .int .i64 (N : Int), .int .i64 en]) rfl (by kernel_rfl) (by kernel_rfl) (by kernel_rfl) (by kernel_rfl) (fun _ _ _ h => h) (.inl g13) (Or.inl ⟨by simp [Region.wanted], ?_⟩) ?_
    · intro w; go_simp
    refine Rest.take (i := 6) (v := .agg (smV R a7 c7 (Lf ka kc) wi pu)) rfl (by kernel_rfl) (by kernel_rfl) (by kernel_rfl) (by kernel_rfl) (fun _ _ _ h => h) (.inl g13) (Or.inl ⟨by simp [Region.wanted], ?_⟩) ?_
    · intro w; go_simp
    refine Rest.take (i := 7) (v := .int .i64 (N : Int)) rfl (by kernel_rfl) (by kernel_rfl) (by kernel_rfl) (by kernel_rfl) (fun _ _ _ h => h) (.inl g13) (Or.inl ⟨by simp [Region.wanted], ?_⟩) ?_
    · intro w; go_simp
    refine Rest.take (i := 8) (v := .int .i64 en) rfl (by kernel_rfl) (by kernel_rfl) (by kernel_rfl) (by kernel_rfl) (fun _ _ _ h => h) (.inl g13) (Or.inl ⟨by simp [Region.wanted], ?_⟩) ?_
    · intro w; go_simp
    refine Rest.one (i := 9) (by kernel_rfl) rfl (fun K hK => ?_)
    rw [if_pos (by simp [Region.wanted])]
    go_simp
    refine hK _ _ ⟨.inl (g13.alloc g13.size _), ?_⟩; clear hK K
    refine Rest.one (i := 10) (by kernel_rfl) rfl (fun K hK => ?_)
    (with_reducible refine draw_storeR rowSm ?zp3gd ?zp3x ?zp3y ?zp3o w7.heap.size (smV R a7 c7 (Lf ka kc) wi pu) ?zp3hx ?zp3hy (heap_alloc_new w7 (.cells smZ 30)) ?zp3n ?zp3old (sm_ones _ _ _ _ _ _) ?zp3h)
    case zp3o => exact rfl
    case zp3gd => exact rfl
    case zp3hx => first | (simp [Act.eval]; done) | simp [Act.eval, Act.put]
    case zp3hy => first | (simp [Act.eval]; done) | simp [Act.eval, Act.put]
    case zp3n => rfl
    case zp3old => rfl
    refine hK _ _ ⟨.inr (thru_of (by kernel_rfl)), Rest.of_any _ _ _ _ (thru_of (by kernel_rfl)) ?_⟩; clear hK K
    have f8 := setRow_heap _ _ _ (smV R a7 c7 (Lf ka kc) wi pu) _ _ (heap_alloc_new w7 (.cells smZ 30))
    have g34 : Below w7.heap.size w7 ((w7.alloc (.cells smZ 30)).setRow w7.heap.size (smV R a7 c7 (Lf ka kc) wi pu)) := below_setRow (bnew0 w7 _) (Nat.le_refl _) _
    have g68 : Below W6.heap.size W6 ((w7.alloc (.cells smZ 30)).setRow w7.heap.size (smV R a7 c7 (Lf ka kc) wi pu)) := bstep g13 g34
    have l8 := l7.below g34
    have h3 : ∀ k, W6.drew.heap.size ≤ k → W6.heap.size ≤ k := fun k h => h
    clear g34 g13 g7 l7
    generalize (w7.alloc (.cells smZ 30)).setRow w7.heap.size (smV R a7 c7 (Lf ka kc) wi pu) = w8 at *
    refine wpAny_take (i := 11) (v := .int .i64 (N : Int)) rfl (by kernel_rfl) (by kernel_rfl) (by kernel_rfl) (fun _ _ _ h => h) (Or.inl ⟨by simp [Region.wanted], ?_⟩) ?_
    · intro w; go_simp
    refine wpAny_take (i := 12) (v := .int .i64 en) rfl (by kernel_rfl) (by kernel_rfl) (by kernel_rfl) (fun _ _ _ h => h) (Or.inl ⟨by simp [Region.wanted], ?_⟩) ?_
    · intro w; go_simp
    refine wpAny_done (by kernel_rfl) ?_ _
    have m8 := bx_below m6 g68
    have iI8 := bx_below iI6 g68
    have oI8 := oI6.below g68
    have hF8 := hF6.below g68
    have gg8 := bstep gg6 g68
    have z68 := g68.size
    have gr8 := bstep gr6 g68
    have hT7 : ∀ k, T7 k → ¬ S k ∧ k ≠ hm ∧ ∀ q, ia = some q → q.block ≠ k := fun k hk => by
      rcases t7 k hk with (h | ⟨q, hq, rfl⟩) | h
      · have h1 := hTlt k h
        exact ⟨hTS k h, fun e => hnT (by rw [← e]; exact h), fun q hq => by have := (hiaB q hq).1; omega⟩
      · have h1 := (hkaB q hq).1
        exact ⟨fun e => by have := hSL _ e; omega, by omega, fun q2 hq2 => by have := (hiaB q2 hq2).2; omega⟩
      · have h2 := h3 k h
        exact ⟨fun e => by have := hSL _ e; omega, by omega, fun q2 hq2 => by have := (hiaB q2 hq2).2; omega⟩
    have hiaS : ∀ q, ia = some q → ¬ S q.block := fun q hq e => by have := hSL _ e; have := (hiaB q hq).1; omega
    have hiS : ¬ S W.heap.size := fun e => by have := hSL _ e; omega
    clear m6 iI6 oI6 hF6 gg6 i6 o6 hLT rK6 HS hd1 t7 h3 hTlt g68
    go_upto_region 16 with (first
      | (with_reducible refine wpList_loadR rowSm rfl _ rfl _ rfl f8 rfl ?_)
      | (with_reducible refine wpList_storeR rowSm rfl _ _ rfl _ _ rfl rfl m8 rfl rfl (sm_ones _ _ _ _ _ _) ?_
         have k9 : Ch (fun b => b = hm) w8 (w8.setRow hm (smV R a7 c7 (Lf ka kc) wi pu)) := (Ch.refl (fun b => b = hm) w8).setRow (.inl rfl) _
         have hF9 := hF8.ch k9 (fun b hb e => hnS (e ▸ hb))
         have l9 := l8.ch k9 (fun b hb e => (hT7 b hb).2.1 e)
         have m9 := setRow_heap _ _ _ (smV R a7 c7 (Lf ka kc) wi pu) _ _ m8
         have iI9 := k9.bx iI8 (by omega)
         have oI9 := oI8.ch k9 (fun q hq e => by have := (hiaB q hq).1; omega)
         have gg9 := k9.below gg8 (Nat.le_refl _) (fun b hb => by rw [hb]; exact hhm)
         have z9 := k9.size
         clear hF8 l8 m8 oI8 iI8 gg8 f8
         generalize w8.setRow hm (smV R a7 c7 (Lf ka kc) wi pu) = W9 at *)
      | (with_reducible refine wpList_loadR rowF rfl _ rfl _ rfl iI9 rfl ?_)
      | (go_at_call 17; (with_reducible refine Calls.mono (HMl.out W9 ia ic hF9 (fun w' k => (by rw [HG2.out]; exact (oI9.ch k hiaS).rl))) ?_); rintro e w10 ⟨a10, c10, S10, d10, e10, rfl, h10, k10, hS10⟩))
    have hL10 := l9.ch k10 (fun b hb => (hT7 b hb).1)
    have m10 := k10.bx m9 hnS
    have iI10 := k10.bx iI9 hiS
    have oI10 := oI9.ch k10 hiaS
    have gg10 := k10.below gg9 (Nat.le_refl _) hSB
    have z910 := k10.size
    have kch := mt_ch (hm := hm) gr8 k9 k10
    have hbs : ∀ q, ia = some q → wr.heap.size ≤ q.block := fun q hq => by rw [HBE.out]; have := (hiaB q hq).1; omega
    have hTL9 := l9.tL
    have hSia : ∀ q, ia = some q → ¬ S10 q.block := fun q hq e => by
      rcases hS10 _ e with h | h
      · exact hiaS q hq h
      · have := (hiaB q hq).2; omega
    have hShm : ¬ S10 hm := fun e => by
      rcases hS10 _ e with h | h
      · exact hnS h
      · omega
    have hTS10 : ∀ k, T7 k → ¬ S10 k := fun k hk e => by
      rcases hS10 _ e with h | h
      · exact (hT7 k hk).1 h
      · have := hTL9 k hk; omega
    obtain ⟨hI', hM', hR', hn', hwi, hpu⟩ := HMf.out d10 e10 ka kc
    clear hF9 l9 m9 oI9 iI9 gg9 hTL9 hS10 k10
    have x4 := (bx5 iI10).2.2.2.2
    rw [show (Value.slice ia F2.data.length ic) = .slice ia G ic by rw [HG2.out]] at x4
    go_wp2
    clear x4
    obtain ⟨w20, hw20⟩ : ∃ w20, w20 = w10 := ⟨_, rfl⟩
    rw [← hw20]
    rw [← hw20] at iI10 h10 hL10 oI10 m10 gg10 z910 kch
    clear hw20
    go_loopg [106] G (fun gn vi wr => ∃ (k : Nat) (l' : List UInt8), k ≤ G ∧ gn = G - k ∧ vi = .int .i64 (k : Int) ∧ OL bv 5 W.heap.size wr ia G ic l' ∧ Ch (fun b => ∃ q, ia = some q ∧ q.block = b) w20 wr)
    case atStart => exact ⟨0, F2.data, by omega, by omega, rfl, oI10, Ch.refl _ _⟩
    case round =>
      obtain ⟨k, l', hk, rfl, rfl, hO, kD⟩ := hrel
      have bx4 := kD.bx iI10 (fun ⟨q, e1, e2⟩ => by have := (hiaB q e1).1; omega)
      have x4 := (bx5 bx4).2.2.2.2
      rw [show (Value.slice ia F2.data.length ic) = .slice ia G ic by rw [HG2.out]] at x4
      by_cases hkl : k < G
      · rcases hO.ex with ⟨_, h0, _⟩ | ⟨gx, cur, hxa, hBx, hhx, hcx⟩
        · omega
        · obtain ⟨v, hv⟩ : ∃ v, l'[k]? = some v := ⟨_, List.getElem?_eq_getElem (by rw [hO.len]; exact hkl)⟩
          rw [hxa] at x4
          have hO2 := hO
          rw [hxa] at hO2
          obtain ⟨c1, c2⟩ := hO2.cellAt hv
          unfold bv at c1
          obtain ⟨z, hz⟩ : ∃ z : UInt8, ((v.toNat : Int) + 1) % 256 = (z.toNat : Int) := ⟨v + 1, by rw [UInt8.toNat_add]; show _ = (((v.toNat + 1) % 256 : Nat) : Int); omega⟩
          have hO3 : OL bv 5 W.heap.size (wr.setCell ⟨gx, k, none⟩ (.int .u8 (z.toNat : Int))) (some ⟨gx, 0, none⟩) G ic (l'.set k z) := hO2.set z
          have kD3 : Ch (fun b => ∃ q, ia = some q ∧ q.block = b) w20 (wr.setCell ⟨gx, k, none⟩ (.int .u8 (z.toNat : Int))) := kD.setCell (p := ⟨gx, k, none⟩) (.inl ⟨_, hxa, rfl⟩) _
          rw [← hxa] at hO3
          have HXA := hid hxa
          clear hxa hhx hv bx4 hO hO2 oI10
          go_wp2
          go_roundg (G - (k + 1))
          case measure => omega
          case rel => exact ⟨k + 1, _, by omega, rfl, by go_num, hO3, kD3⟩
      · obtain rfl : G = k := by omega
        go_wp2
        go_ret
        exact ⟨rfl, ⟨mf d10 e10, a10, c10, S10, a7, c7, Lf ka kc, T7, h10.ch kD (fun b hb ⟨q, e1, e2⟩ => hSia q e1 (by rw [e2]; exact hb)), hI', hL10.ch kD (fun b hb ⟨q, e1, e2⟩ => (hT7 b hb).2.2 q e1 e2), hM', hR', hn', by rw [hwi, hpu]; exact kD.bx m10 (fun ⟨q, e1, e2⟩ => by have := (hiaB q e1).1; omega), hhm, hShm, fun e => (hT7 _ e).2.1 rfl, hTS10, kD.below gg10 (Nat.le_refl _) (fun b ⟨q, e1, e2⟩ => by have := (hiaB q e1).1; omega)⟩, kch.trans kD (fun b ⟨q, e1, e2⟩ => .inr (by rw [← e2]; exact hbs q e1))⟩
  · rw [if_pos (by simp [Region.wanted])]
    go_simp
    have hd2 : Below W6.heap.size W6 (W6.drew.alloc (.cells smZ 30)) := hd1.alloc hd1.size _
    refine hK _ _ ⟨.inl hd2, ?_⟩; clear hK K
    refine Rest.one (i := 4) (by kernel_rfl) rfl (fun K hK => ?_)
    refine draw_callF 22 (by kernel_rfl) (by simp [Region.wanted]) _ _ _ rfl (by simp [Act.eval]) #[.agg (smV R La lc L m.wire m.puts), .agg (frV F2 ka kc)] (by simp [Act.eval, Act.put]) _ (HRf.out (W6.drew.alloc (.cells smZ 30)) ka kc _ (hLT.below hd2) (rK6.below hd2) (fun q hq => Or.inr ⟨q, hq, rfl⟩) (Nat.le_trans (Nat.le_trans hgs (Nat.le_of_lt hW36)) hd2.size)) ?_
    rintro e w7 ⟨a7, c7, T7, rfl, l7, g7, t7⟩
    refine ⟨_, rfl, ?_⟩
    have g13 : Below W6.heap.size W6 w7 := bstep hd2 g7
    refine hK _ _ ⟨.inl g13, ?_⟩; clear hK K
    refine Rest.take (i := 5) (v := .tuple #[.agg (smV R a7 c7 (Lf ka kc) wi pu), .int .i64 (N : Int), .int .i64 en]) rfl (by kernel_rfl) (by kernel_rfl) (by kernel_rfl) (by kernel_rfl) (fun _ _ _ h => h) (.inl g13) (Or.inl ⟨by simp [Region.wanted], ?_⟩) ?_
    · intro w; go_simp
    refine Rest.take (i := 6) (v := .agg (smV R a7 c7 (Lf ka kc) wi pu)) rfl (by kernel_rfl) (by kernel_rfl) (by kernel_rfl) (by kernel_rfl) (fun _ _ _ h => h) (.inl g13) (Or.inl ⟨by simp [Region.wanted], ?_⟩) ?_
    · intro w; go_simp
    refine Rest.take (i := 7) (v := .int .i64 (N : Int)) rfl (by kernel_rfl) (by kernel_rfl) (by kernel_rfl) (by kernel_rfl) (fun _ _ _ h => h) (.inl g13) (Or.inl ⟨by simp [Region.wanted], ?_⟩) ?_
    · intro w; go_simp
    refine Rest.take (i := 8) (v := .int .i64 en) rfl (by kernel_rfl) (by kernel_rfl) (by kernel_rfl) (by kernel_rfl) (fun _ _ _ h => h) (.inl g13) (Or.inl ⟨by simp [Region.wanted], ?_⟩) ?_
    · intro w; go_simp
    have f3 : w7.heap[W6.heap.size]? = some (.cells smZ 30 (0, 0)) := bx_below (heap_alloc_new W6.drew _) g7
    refine Rest.one (i := 10) (by kernel_rfl) rfl (fun K hK => ?_)
    (with_reducible refine draw_storeR rowSm ?zp4gd ?zp4x ?zp4y ?zp4o W6.heap.size (smV R a7 c7 (Lf ka kc) wi pu) ?zp4hx ?zp4hy f3 ?zp4n ?zp4old (sm_ones _ _ _ _ _ _) ?zp4h)
    case zp4o => exact rfl
    case zp4gd => exact rfl
    case zp4hx => first | (simp [Act.eval]; done) | simp [Act.eval, Act.put]
    case zp4hy => first | (simp [Act.eval]; done) | simp [Act.eval, Act.put]
    case zp4n => rfl
    case zp4old => rfl
    refine hK _ _ ⟨.inr (thru_of (by kernel_rfl)), Rest.of_any _ _ _ _ (thru_of (by kernel_rfl)) ?_⟩; clear hK K
    have f8 := setRow_heap _ _ _ (smV R a7 c7 (Lf ka kc) wi pu) _ _ f3
    have g68 : Below W6.heap.size W6 (w7.setRow W6.heap.size (smV R a7 c7 (Lf ka kc) wi pu)) := below_setRow g13 (Nat.le_refl _) _
    have h3 : ∀ k, (W6.drew.alloc (.cells smZ 30)).heap.size ≤ k → W6.heap.size ≤ k := fun k h => Nat.le_trans hd2.size h
    have hz2 : (W6.drew.alloc (.cells smZ 30)).heap.size = W6.heap.size + 1 := by rw [heap_size_alloc]; rfl
    have hTL1 := hLT.tL
    have l8 := l7.ch ((Ch.refl (fun b => b = W6.heap.size) w7).setRow (.inl rfl) (smV R a7 c7 (Lf ka kc) wi pu)) (fun b hb e => by rcases t7 b hb with h | h; (have := hTL1 b h; omega); omega)
    clear f3 hz2 hTL1 g13 g7 l7 hd2
    generalize w7.setRow W6.heap.size (smV R a7 c7 (Lf ka kc) wi pu) = w8 at *
    refine wpAny_take (i := 11) (v := .int .i64 (N : Int)) rfl (by kernel_rfl) (by kernel_rfl) (by kernel_rfl) (fun _ _ _ h => h) (Or.inl ⟨by simp [Region.wanted], ?_⟩) ?_
    · intro w; go_simp
    refine wpAny_take (i := 12) (v := .int .i64 en) rfl (by kernel_rfl) (by kernel_rfl) (by kernel_rfl) (fun _ _ _ h => h) (Or.inl ⟨by simp [Region.wanted], ?_⟩) ?_
    · intro w; go_simp
    refine wpAny_done (by kernel_rfl) ?_ _
    have m8 := bx_below m6 g68
    have iI8 := bx_below iI6 g68
    have oI8 := oI6.below g68
    have hF8 := hF6.below g68
    have gg8 := bstep gg6 g68
    have z68 := g68.size
    have gr8 := bstep gr6 g68
    have hT7 : ∀ k, T7 k → ¬ S k ∧ k ≠ hm ∧ ∀ q, ia = some q → q.block ≠ k := fun k hk => by
      rcases t7 k hk with (h | ⟨q, hq, rfl⟩) | h
      · have h1 := hTlt k h
        exact ⟨hTS k h, fun e => hnT (by rw [← e]; exact h), fun q hq => by have := (hiaB q hq).1; omega⟩
      · have h1 := (hkaB q hq).1
        exact ⟨fun e => by have := hSL _ e; omega, by omega, fun q2 hq2 => by have := (hiaB q2 hq2).2; omega⟩
      · have h2 := h3 k h
        exact ⟨fun e => by have := hSL _ e; omega, by omega, fun q2 hq2 => by have := (hiaB q2 hq2).2; omega⟩
    have hiaS : ∀ q, ia = some q → ¬ S q.block := fun q hq e => by have := hSL _ e; have := (hiaB q hq).1; omega
    have hiS : ¬ S W.heap.size := fun e => by have := hSL _ e; omega
    clear m6 iI6 oI6 hF6 gg6 i6 o6 hLT rK6 HS hd1 t7 h3 hTlt g68
    go_upto_region 16 with (first
      | (with_reducible refine wpList_loadR rowSm rfl _ rfl _ rfl f8 rfl ?_)
      | (with_reducible refine wpList_storeR rowSm rfl _ _ rfl _ _ rfl rfl m8 rfl rfl (sm_ones _ _ _ _ _ _) ?_
         have k9 : Ch (fun b => b = hm) w8 (w8.setRow hm (smV R a7 c7 (Lf ka kc) wi pu)) := (Ch.refl (fun b => b = hm) w8).setRow (.inl rfl) _
         have hF9 := hF8.ch k9 (fun b hb e => hnS (e ▸ hb))
         have l9 := l8.ch k9 (fun b hb e => (hT7 b hb).2.1 e)
         have m9 := setRow_heap _ _ _ (smV R a7 c7 (Lf ka kc) wi pu) _ _ m8
         have iI9 := k9.bx iI8 (by omega)
         have oI9 := oI8.ch k9 (fun q hq e => by have := (hiaB q hq).1; omega)
         have gg9 := k9.below gg8 (Nat.le_refl _) (fun b hb => by rw [hb]; exact hhm)
         have z9 := k9.size
         clear hF8 l8 m8 oI8 iI8 gg8 f8
         generalize w8.setRow hm (smV R a7 c7 (Lf ka kc) wi pu) = W9 at *)
      | (with_reducible refine wpList_loadR rowF rfl _ rfl _ rfl iI9 rfl ?_)
      | (go_at_call 17; (with_reducible refine Calls.mono (HMl.out W9 ia ic hF9 (fun w' k => (by rw [HG2.out]; exact (oI9.ch k hiaS).rl))) ?_); rintro e w10 ⟨a10, c10, S10, d10, e10, rfl, h10, k10, hS10⟩))
    have hL10 := l9.ch k10 (fun b hb => (hT7 b hb).1)
    have m10 := k10.bx m9 hnS
    have iI10 := k10.bx iI9 hiS
    have oI10 := oI9.ch k10 hiaS
    have gg10 := k10.below gg9 (Nat.le_refl _) hSB
    have z910 := k10.size
    have kch := mt_ch (hm := hm) gr8 k9 k10
    have hbs : ∀ q, ia = some q → wr.heap.size ≤ q.block := fun q hq => by rw [HBE.out]; have := (hiaB q hq).1; omega
    have hTL9 := l9.tL
    have hSia : ∀ q, ia = some q → ¬ S10 q.block := fun q hq e => by
      rcases hS10 _ e with h | h
      · exact hiaS q hq h
      · have := (hiaB q hq).2; omega
    have hShm : ¬ S10 hm := fun e => by
      rcases hS10 _ e with h | h
      · exact hnS h
      · omega
    have hTS10 : ∀ k, T7 k → ¬ S10 k := fun k hk e => by
      rcases hS10 _ e with h | h
      · exact (hT7 k hk).1 h
      · have := hTL9 k hk; omega
    obtain ⟨hI', hM', hR', hn', hwi, hpu⟩ := HMf.out d10 e10 ka kc
    clear hF9 l9 m9 oI9 iI9 gg9 hTL9 hS10 k10
    have x4 := (bx5 iI10).2.2.2.2
    rw [show (Value.slice ia F2.data.length ic) = .slice ia G ic by rw [HG2.out]] at x4
    go_wp2
    clear x4
    obtain ⟨w20, hw20⟩ : ∃ w20, w20 = w10 := ⟨_, rfl⟩
    rw [← hw20]
    rw [← hw20] at iI10 h10 hL10 oI10 m10 gg10 z910 kch
    clear hw20
    go_loopg [106] G (fun gn vi wr => ∃ (k : Nat) (l' : List UInt8), k ≤ G ∧ gn = G - k ∧ vi = .int .i64 (k : Int) ∧ OL bv 5 W.heap.size wr ia G ic l' ∧ Ch (fun b => ∃ q, ia = some q ∧ q.block = b) w20 wr)
    case atStart => exact ⟨0, F2.data, by omega, by omega, rfl, oI10, Ch.refl _ _⟩
    case round =>
      obtain ⟨k, l', hk, rfl, rfl, hO, kD⟩ := hrel
      have bx4 := kD.bx iI10 (fun ⟨q, e1, e2⟩ => by have := (hiaB q e1).1; omega)
      have x4 := (bx5 bx4).2.2.2.2
      rw [show (Value.slice ia F2.data.length ic) = .slice ia G ic by rw [HG2.out]] at x4
      by_cases hkl : k < G
      · rcases hO.ex with ⟨_, h0, _⟩ | ⟨gx, cur, hxa, hBx, hhx, hcx⟩
        · omega
        · obtain ⟨v, hv⟩ : ∃ v, l'[k]? = some v := ⟨_, List.getElem?_eq_getElem (by rw [hO.len]; exact hkl)⟩
          rw [hxa] at x4
          have hO2 := hO
          rw [hxa] at hO2
          obtain ⟨c1, c2⟩ := hO2.cellAt hv
          unfold bv at c1
          obtain ⟨z, hz⟩ : ∃ z : UInt8, ((v.toNat : Int) + 1) % 256 = (z.toNat : Int) := ⟨v + 1, by rw [UInt8.toNat_add]; show _ = (((v.toNat + 1) % 256 : Nat) : Int); omega⟩
          have hO3 : OL bv 5 W.heap.size (wr.setCell ⟨gx, k, none⟩ (.int .u8 (z.toNat : Int))) (some ⟨gx, 0, none⟩) G ic (l'.set k z) := hO2.set z
          have kD3 : Ch (fun b => ∃ q, ia = some q ∧ q.block = b) w20 (wr.setCell ⟨gx, k, none⟩ (.int .u8 (z.toNat : Int))) := kD.setCell (p := ⟨gx, k, none⟩) (.inl ⟨_, hxa, rfl⟩) _
          rw [← hxa] at hO3
          have HXA := hid hxa
          clear hxa hhx hv bx4 hO hO2 oI10
          go_wp2
          go_roundg (G - (k + 1))
          case measure => omega
          case rel => exact ⟨k + 1, _, by omega, rfl, by go_num, hO3, kD3⟩
      · obtain rfl : G = k := by omega
        go_wp2
        go_ret
        exact ⟨rfl, ⟨mf d10 e10, a10, c10, S10, a7, c7, Lf ka kc, T7, h10.ch kD (fun b hb ⟨q, e1, e2⟩ => hSia q e1 (by rw [e2]; exact hb)), hI', hL10.ch kD (fun b hb ⟨q, e1, e2⟩ => (hT7 b hb).2.2 q e1 e2), hM', hR', hn', by rw [hwi, hpu]; exact kD.bx m10 (fun ⟨q, e1, e2⟩ => by have := (hiaB q e1).1; omega), hhm, hShm, fun e => (hT7 _ e).2.1 rfl, hTS10, kD.below gg10 (Nat.le_refl _) (fun b ⟨q, e1, e2⟩ => by have := (hiaB q e1).1; omega)⟩, kch.trans kD (fun b ⟨q, e1, e2⟩ => .inr (by rw [← e2]; exact hbs q e1))⟩

set_option maxRecDepth 100000 in
set_option maxHeartbeats 16000000 in
theorem step_put2 {w wr : World} {g hm R n : Nat} {m : Ml} {a La : Option Addr} {c lc : Nat} {S T : Nat → Prop} {L : List Sl} (ow : Nat) (on : Int) (F : Fr) (da : Option Addr) (dc : Nat) (hF : MlO w.heap.size wr g m a c S) (hL : LmO w.heap.size wr La lc L T) (hbx : wr.heap[hm]? = some (.cells (smV R La lc L m.wire m.puts) 30 (0, 0))) (hhm : w.heap.size ≤ hm) (hnS : ¬ S hm) (hnT : ¬ T hm) (hTS : ∀ k, T k → ¬ S k) (hb : Below w.heap.size w wr) (hr : (ow : Int) % 8 = 2) (N : Nat) (en : Int) (wi pu : Nat) (mf : Option Addr → Nat → Ml) (Lf : Option Addr → Nat → List Sl)
    (hdat : RL bv wr da F.data.length dc F.data) (F2 : Fr) (G : Nat) (hmg : ∀ ts t w', (Builtin.min_ ts t #[.int .i64 (F.data.length : Int), .int .i64 20]).run Try.prog w' = .ok (.int .i64 (G : Int)) w') (hG1 : G ≤ F.data.length) (hG20 : G ≤ 20) (hF2d : F.data.take G = F2.data) (hF2e : F2.id = F.id ∧ F2.ext = F.ext ∧ F2.rem = F.rem ∧ F2.dlc = F.dlc) (hG2 : F2.data.length = G)
    (hRef : ∀ w1 fa fc T1, LmO w.heap.size w1 La lc L T1 → RL bv w1 fa F2.data.length fc F2.data → (∀ q, fa = some q → T1 q.block) → w.heap.size ≤ w1.heap.size → Calls Try.prog 22 #[.agg (smV R La lc L m.wire m.puts), .agg (frV F2 fa fc)] w1 (RmR w.heap.size w1 R (Lf fa fc) wi pu T1 fun v => .returned (.tuple #[v, .int .i64 (N : Int), .int .i64 en])))
    (hMail : ∀ w1 fa fc, MlO w.heap.size w1 g m a c S → (∀ w', Ch S w1 w' → RL bv w' fa F2.data.length fc F2.data) → Calls Try.prog 17 #[.pointer (some ⟨g, 0, none⟩), .agg (frV F2 fa fc)] w1 (MpR w.heap.size w1 g mf S N en))
    (hMf : ∀ a' c' fa fc, MlI (mf a' c') ∧ MsR (mf a' c') (Lf fa fc) ∧ (mf a' c').room = R ∧ (mf a' c').puts ≤ n ∧ (mf a' c').wire = wi ∧ (mf a' c').puts = pu) :
    Calls Try.prog 6 #[.pointer (some ⟨g, 0, none⟩), .pointer (some ⟨hm, 0, none⟩), .agg (opV10 (ow, ((F, (da, dc)), on)))] wr fun e w' => e = .returned (.bool true) ∧ MtR w g hm R n w' ∧ Ch (fun b => S b ∨ b = hm) wr w' := by
  have hlt : hm < wr.heap.size := bx_lt hbx
  have hSL := hF.sL
  have hSB := hF.sB
  have hTlt := hL.tL
  obtain ⟨W, hW, bW, gW, zW⟩ : ∃ W, Hid (wr.alloc (.cells (opV10 (ow, ((F, (da, dc)), on))) 36) = W) ∧ W.heap[wr.heap.size]? = some (.cells (opV10 (ow, ((F, (da, dc)), on))) 36 (0, 0)) ∧ Below wr.heap.size wr W ∧ wr.heap.size < W.heap.size := ⟨_, rfl, heap_alloc_new wr _, bnew0 wr _, by rw [heap_size_alloc]; omega⟩
  have HRf := hid hRef
  have HMl := hid hMail
  have HMf := hid hMf
  have x0 : W.cell? ⟨wr.heap.size, 0, none⟩ = some (.int .u8 (ow : Int)) := by rw [cell_of_row _ _ 0 _ _ _ bW]; rfl
  have hrX := op_range10 bW
  dsimp only at hrX
  have b1 := heap_alloc_new W (.cells frZr 34)
  have hG6 : G ≤ 1000000 := by omega
  have hby1 : 1 ≤ 64 := by omega
  have HG2 := hid hG2
  have hdatW := hdat.below gW
  have hFW := hF.below gW
  have hLW := hL.below gW
  have mW := bx_below hbx gW
  have hbW := bstep hb gW
  clear hRef hMail hMf hG2 hdat hF hL hbx
  generalize hbE : wr.heap.size = b at *
  have HBE := hid hbE; clear hbE
  go_enter Try.func6, Try.ntmps6
  go_upto_region 13 with (first
    | (rw [hW.out, HBE.out])
    | (with_reducible refine wpList_loadM rowF rfl _ rfl _ _ rfl (frV F da dc) hrX rfl ?_)
    | (with_reducible refine wpList_storeR rowF rfl _ _ rfl _ _ rfl rfl b1 rfl rfl (fr_ones F da dc) ?_
       have g1 : Below W.heap.size W ((W.alloc (.cells frZr 34)).setRow W.heap.size (frV F da dc)) := below_setRow (bnew0 W _) (Nat.le_refl _) _
       have i1 := setRow_heap _ _ _ (frV F da dc) _ _ b1
       have bo1 := bx_below bW g1
       clear b1 hrX
       generalize (W.alloc (.cells frZr 34)).setRow W.heap.size (frV F da dc) = W1 at *
       have z1 : W.heap.size < W1.heap.size := bx_lt i1
       have x5 : (W1.alloc (.cells #[] 5)).cell? ⟨b, 5, none⟩ = some (.slice da F.data.length dc) := by rw [cell_of_row _ b 5 _ _ _ (bx_alloc _ bo1)]; rfl
       have gg1 := bnew g1 (.cells #[] 5)
       have oe := ol_lit bv 5 W.heap.size W1 [] #[] 0 rfl rfl (by omega) (Nat.le_of_lt z1)
       have hba : W.heap.size ≤ (W1.alloc (.cells #[] 5)).heap.size := by rw [heap_size_alloc]; omega)
    | (with_reducible refine wpList_cutTo0 (f := bv) tY rfl _ _ rfl _ _ G rfl rfl rfl hdatW hG1 ?_
       intro ca hca
       rw [hF2d] at hca
       have hca1 := hca.below gg1)
    | (with_reducible refine wpList_app0 (f := bv) tY rfl _ _ rfl rfl oe rfl hca1 hG6 hby1 hba ?_
       intro w2 ia ic o2 g2 hia
       obtain ⟨i3, x24, f2, hiaB, o3, g3⟩ := in_boxF (F2 := F2) g1 i1 g2 o2 HG2.out hF2e
       have gg3 := bstep hbW g3
       have hF3 := hFW.below g3
       have hL3 := hLW.below g3
       have m3 := bx_below mW g3
       clear hFW hLW mW bo1 gg1 oe hba hca hca1 g1 i1 z1 x5 hbW hF2e o2 g2)
    | (with_reducible refine wpList_loadR rowF rfl _ rfl _ rfl i3 rfl ?_
       clear x24 f2
       generalize w2.setCell ⟨W.heap.size, 4, none⟩ (.slice ia G ic) = W3 at *
       have b4 := heap_alloc_new W3 (.cells frZr 34))
    | (with_reducible refine wpList_storeR rowF rfl _ _ rfl _ _ rfl rfl b4 rfl rfl (fr_ones F2 ia ic) ?_
       have g4 : Below W3.heap.size W3 ((W3.alloc (.cells frZr 34)).setRow W3.heap.size (frV F2 ia ic)) := below_setRow (bnew0 W3 _) (Nat.le_refl _) _
       have i4 := setRow_heap _ _ _ (frV F2 ia ic) _ _ b4
       clear b4
       generalize (W3.alloc (.cells frZr 34)).setRow W3.heap.size (frV F2 ia ic) = W4 at *
       have z4 : W3.heap.size < W4.heap.size := bx_lt i4
       have x5 : (W4.alloc (.cells #[] 5)).cell? ⟨W.heap.size, 4, none⟩ = some (.slice ia G ic) := by rw [cell_of_row _ _ 4 _ _ _ (bx_alloc _ (bx_below i3 g4)), ← HG2.out]; rfl
       have oe2 := ol_lit bv 5 W3.heap.size W4 [] #[] 0 rfl rfl (by omega) (Nat.le_of_lt z4)
       have hba2 : W3.heap.size ≤ (W4.alloc (.cells #[] 5)).heap.size := by rw [heap_size_alloc]; omega
       have src2 := ((o3.below g4).alloc (.cells #[] 5)).rl)
    | (with_reducible refine wpList_app0 (f := bv) tY rfl _ _ rfl rfl oe2 rfl src2 hG6 hby1 hba2 ?_
       intro w5 ka kc o5 g5 hka
       obtain ⟨i6, x64, f6, hkaB, o6, g6⟩ := in_boxF (F2 := F2) g4 i4 g5 o5 HG2.out ⟨rfl, rfl, rfl, rfl⟩
       have gg6 := bstep gg3 g6
       have hF6 := hF3.below g6
       have hL6 := hL3.below g6
       have m6 := bx_below m3 g6
       have oI6 := o3.below g6
       have iI6 := bx_below i3 g6
       rw [show (Value.slice ia F2.data.length ic) = .slice ia G ic by rw [HG2.out]] at x64))
  generalize w5.setCell ⟨W3.heap.size, 4, none⟩ (.slice ka G kc) = W6 at *
  have hgs : w.heap.size ≤ W3.heap.size := gg3.size
  have hWW : W.heap.size ≤ W3.heap.size := g3.size
  have hW36 : W3.heap.size < W6.heap.size := bx_lt i6
  have rK6 := o6.rl
  rw [← HG2.out] at rK6
  have hLT : LmO w.heap.size W6 La lc L (fun k => T k ∨ ∃ q, ka = some q ∧ q.block = k) := ⟨hL6.row, hL6.dat, fun q hq => .inl (hL6.ta q hq), fun p hp q hq => .inl (hL6.td p hp q hq), fun k hk => by
      rcases hk with h | ⟨q, hq, rfl⟩
      · exact hL6.tB k h
      · have := (hkaB q hq).1; omega, fun k hk => by
      rcases hk with h | ⟨q, hq, rfl⟩
      · exact hL6.tL k h
      · exact (hkaB q hq).2⟩
  have gW1 : Below wr.heap.size wr W := by rw [HBE.out]; exact gW
  have gr6 := bstep (bstep gW1 g3) g6
  clear i4 g4 z4 x5 oe2 hba2 src2 o5 g5 x64 f6 hF3 hL3 m3 o3 i3 hW gW hL6 gg3 g3
  have hd1 : Below W6.heap.size W6 W6.drew := (Below.refl _ _).drew
  have HS : Below W6.heap.size W6 W6.drew := hd1
  refine Rest.begin (S := fun w' => Below W6.heap.size W6 w') (X := [4, 9, 10]) (by kernel_rfl) ?_
  change Rest _ _ _ _ _ _ _ _ _ W6.drew
  refine Rest.take (i := 0) (v := .pointer (some ⟨hm, 0, none⟩)) rfl (by kernel_rfl) (by kernel_rfl) (by kernel_rfl) (by kernel_rfl) (fun _ _ _ h => h) (.inl HS) (Or.inl ⟨by simp [Region.wanted], ?_⟩) ?_
  · intro w; go_simp
  refine Rest.take (i := 1) (v := .pointer (some ⟨hm, 0, none⟩)) rfl (by kernel_rfl) (by kernel_rfl) (by kernel_rfl) (by kernel_rfl) (fun _ _ _ h => h) (.inl HS) (Or.inl ⟨by simp [Region.wanted], ?_⟩) ?_
  · intro w; go_simp
  refine Rest.takeS (i := 2) (v := .agg (smV R La lc L m.wire m.puts)) rfl (by kernel_rfl) (by kernel_rfl) (by kernel_rfl) (by kernel_rfl) (fun _ _ _ h => h) HS (yields_loadR rowSm (by simp [Region.wanted]) _ rfl hm (by simp [Act.eval, Act.put]) _ rfl (fun w' hw => ⟨_, _, bx_below m6 hw⟩)) ?_
  refine Rest.takeS (i := 3) (v := .agg (frV F2 ka kc)) rfl (by kernel_rfl) (by kernel_rfl) (by kernel_rfl) (by kernel_rfl) (fun _ _ _ h => h) HS (yields_loadR rowF (by simp [Region.wanted]) _ rfl W3.heap.size (by simp [Act.eval, Act.put]) _ rfl (fun w' hw => ⟨_, _, bx_below i6 hw⟩)) ?_
  refine Rest.two (i := 4) (j := 9) (by kernel_rfl) rfl rfl (fun K hK => ?_) (fun K hK => ?_)
  · refine draw_callF 22 (by kernel_rfl) (by simp [Region.wanted]) _ _ _ rfl (by simp [Act.eval]) #[.agg (smV R La lc L m.wire m.puts), .agg (frV F2 ka kc)] (by simp [Act.eval, Act.put]) _ (HRf.out W6.drew ka kc _ (hLT.below hd1) (rK6.below hd1) (fun q hq => Or.inr ⟨q, hq, rfl⟩) (Nat.le_trans hgs (Nat.le_of_lt hW36))) ?_
    rintro e w7 ⟨a7, c7, T7, rfl, l7, g7, t7⟩
    refine ⟨_, rfl, ?_⟩
    have g13 : Below W6.heap.size W6 w7 := bstep hd1 g7
    refine hK _ _ ⟨.inl g13, ?_⟩; clear hK K
    refine Rest.take (i := 5) (v := .tuple #[.agg (smV R a7 c7 (Lf ka kc) wi pu), .int .i64 (N : Int), .int .i64 en]) rfl (by kernel_rfl) (by kernel_rfl) (by kernel_rfl) (by kernel_rfl) (fun _ _ _ h => h) (.inl g13) (Or.inl ⟨by simp [Region.wanted], ?_⟩) ?_
    · intro w; go_simp
    refine Rest.take (i := 6) (v := .agg (smV R a7 c7 (Lf ka kc) wi pu)) rfl (by kernel_rfl) (by kernel_rfl) (by kernel_rfl) (by kernel_rfl) (fun _ _ _ h => h) (.inl g13) (Or.inl ⟨by simp [Region.wanted], ?_⟩) ?_
    · intro w; go_simp
    refine Rest.take (i := 7) (v := .int .i64 (N : Int)) rfl (by kernel_rfl) (by kernel_rfl) (by kernel_rfl) (by kernel_rfl) (fun _ _ _ h => h) (.inl g13) (Or.inl ⟨by simp [Region.wanted], ?_⟩) ?_
    · intro w; go_simp
    refine Rest.take (i := 8) (v := .int .i64 en) rfl (by kernel_rfl) (by kernel_rfl) (by kernel_rfl) (by kernel_rfl) (fun _ _ _ h => h) (.inl g13) (Or.inl ⟨by simp [Region.wanted], ?_⟩) ?_
    · intro w; go_simp
    refine Rest.one (i := 9) (by kernel_rfl) rfl (fun K hK => ?_)
    rw [if_pos (by simp [Region.wanted])]
    go_simp
    refine hK _ _ ⟨.inl (g13.alloc g13.size _), ?_⟩; clear hK K
    refine Rest.one (i := 10) (by kernel_rfl) rfl (fun K hK => ?_)
    (with_reducible refine draw_storeR rowSm ?zp5gd ?zp5x ?zp5y ?zp5o w7.heap.size (smV R a7 c7 (Lf ka kc) wi pu) ?zp5hx ?zp5hy (heap_alloc_new w7 (.cells smZ 30)) ?zp5n ?zp5old (sm_ones _ _ _ _ _ _) ?zp5h)
    case zp5o => exact rfl
    case zp5gd => exact rfl
    case zp5hx => first | (simp [Act.eval]; done) | simp [Act.eval, Act.put]
    case zp5hy => first | (simp [Act.eval]; done) | simp [Act.eval, Act.put]
    case zp5n => rfl
    case zp5old => rfl
    refine hK _ _ ⟨.inr (thru_of (by kernel_rfl)), Rest.of_any _ _ _ _ (thru_of (by kernel_rfl)) ?_⟩; clear hK K
    have f8 := setRow_heap _ _ _ (smV R a7 c7 (Lf ka kc) wi pu) _ _ (heap_alloc_new w7 (.cells smZ 30))
    have g34 : Below w7.heap.size w7 ((w7.alloc (.cells smZ 30)).setRow w7.heap.size (smV R a7 c7 (Lf ka kc) wi pu)) := below_setRow (bnew0 w7 _) (Nat.le_refl _) _
    have g68 : Below W6.heap.size W6 ((w7.alloc (.cells smZ 30)).setRow w7.heap.size (smV R a7 c7 (Lf ka kc) wi pu)) := bstep g13 g34
    have l8 := l7.below g34
    have h3 : ∀ k, W6.drew.heap.size ≤ k → W6.heap.size ≤ k := fun k h => h
    clear g34 g13 g7 l7
    generalize (w7.alloc (.cells smZ 30)).setRow w7.heap.size (smV R a7 c7 (Lf ka kc) wi pu) = w8 at *
    refine wpAny_take (i := 11) (v := .int .i64 (N : Int)) rfl (by kernel_rfl) (by kernel_rfl) (by kernel_rfl) (fun _ _ _ h => h) (Or.inl ⟨by simp [Region.wanted], ?_⟩) ?_
    · intro w; go_simp
    refine wpAny_take (i := 12) (v := .int .i64 en) rfl (by kernel_rfl) (by kernel_rfl) (by kernel_rfl) (fun _ _ _ h => h) (Or.inl ⟨by simp [Region.wanted], ?_⟩) ?_
    · intro w; go_simp
    refine wpAny_done (by kernel_rfl) ?_ _
    have m8 := bx_below m6 g68
    have iI8 := bx_below iI6 g68
    have oI8 := oI6.below g68
    have hF8 := hF6.below g68
    have gg8 := bstep gg6 g68
    have z68 := g68.size
    have gr8 := bstep gr6 g68
    have hT7 : ∀ k, T7 k → ¬ S k ∧ k ≠ hm ∧ ∀ q, ia = some q → q.block ≠ k := fun k hk => by
      rcases t7 k hk with (h | ⟨q, hq, rfl⟩) | h
      · have h1 := hTlt k h
        exact ⟨hTS k h, fun e => hnT (by rw [← e]; exact h), fun q hq => by have := (hiaB q hq).1; omega⟩
      · have h1 := (hkaB q hq).1
        exact ⟨fun e => by have := hSL _ e; omega, by omega, fun q2 hq2 => by have := (hiaB q2 hq2).2; omega⟩
      · have h2 := h3 k h
        exact ⟨fun e => by have := hSL _ e; omega, by omega, fun q2 hq2 => by have := (hiaB q2 hq2).2; omega⟩
    have hiaS : ∀ q, ia = some q → ¬ S q.block := fun q hq e => by have := hSL _ e; have := (hiaB q hq).1; omega
    have hiS : ¬ S W.heap.size := fun e => by have := hSL _ e; omega
    clear m6 iI6 oI6 hF6 gg6 i6 o6 hLT rK6 HS hd1 t7 h3 hTlt g68
    go_upto_region 16 with (first
      | (with_reducible refine wpList_loadR rowSm rfl _ rfl _ rfl f8 rfl ?_)
      | (with_reducible refine wpList_storeR rowSm rfl _ _ rfl _ _ rfl rfl m8 rfl rfl (sm_ones _ _ _ _ _ _) ?_
         have k9 : Ch (fun b => b = hm) w8 (w8.setRow hm (smV R a7 c7 (Lf ka kc) wi pu)) := (Ch.refl (fun b => b = hm) w8).setRow (.inl rfl) _
         have hF9 := hF8.ch k9 (fun b hb e => hnS (e ▸ hb))
         have l9 := l8.ch k9 (fun b hb e => (hT7 b hb).2.1 e)
         have m9 := setRow_heap _ _ _ (smV R a7 c7 (Lf ka kc) wi pu) _ _ m8
         have iI9 := k9.bx iI8 (by omega)
         have oI9 := oI8.ch k9 (fun q hq e => by have := (hiaB q hq).1; omega)
         have gg9 := k9.below gg8 (Nat.le_refl _) (fun b hb => by rw [hb]; exact hhm)
         have z9 := k9.size
         clear hF8 l8 m8 oI8 iI8 gg8 f8
         generalize w8.setRow hm (smV R a7 c7 (Lf ka kc) wi pu) = W9 at *)
      | (with_reducible refine wpList_loadR rowF rfl _ rfl _ rfl iI9 rfl ?_)
      | (go_at_call 17; (with_reducible refine Calls.mono (HMl.out W9 ia ic hF9 (fun w' k => (by rw [HG2.out]; exact (oI9.ch k hiaS).rl))) ?_); rintro e w10 ⟨a10, c10, S10, d10, e10, rfl, h10, k10, hS10⟩))
    have hL10 := l9.ch k10 (fun b hb => (hT7 b hb).1)
    have m10 := k10.bx m9 hnS
    have iI10 := k10.bx iI9 hiS
    have oI10 := oI9.ch k10 hiaS
    have gg10 := k10.below gg9 (Nat.le_refl _) hSB
    have z910 := k10.size
    have kch := mt_ch (hm := hm) gr8 k9 k10
    have hbs : ∀ q, ia = some q → wr.heap.size ≤ q.block := fun q hq => by rw [HBE.out]; have := (hiaB q hq).1; omega
    have hTL9 := l9.tL
    have hSia : ∀ q, ia = some q → ¬ S10 q.block := fun q hq e => by
      rcases hS10 _ e with h | h
      · exact hiaS q hq h
      · have := (hiaB q hq).2; omega
    have hShm : ¬ S10 hm := fun e => by
      rcases hS10 _ e with h | h
      · exact hnS h
      · omega
    have hTS10 : ∀ k, T7 k → ¬ S10 k := fun k hk e => by
      rcases hS10 _ e with h | h
      · exact (hT7 k hk).1 h
      · have := hTL9 k hk; omega
    obtain ⟨hI', hM', hR', hn', hwi, hpu⟩ := HMf.out d10 e10 ka kc
    clear hF9 l9 m9 oI9 iI9 gg9 hTL9 hS10 k10
    have x4 := (bx5 iI10).2.2.2.2
    rw [show (Value.slice ia F2.data.length ic) = .slice ia G ic by rw [HG2.out]] at x4
    go_wp2
    clear x4
    obtain ⟨w20, hw20⟩ : ∃ w20, w20 = w10 := ⟨_, rfl⟩
    rw [← hw20]
    rw [← hw20] at iI10 h10 hL10 oI10 m10 gg10 z910 kch
    clear hw20
    go_loopg [106] G (fun gn vi wr => ∃ (k : Nat) (l' : List UInt8), k ≤ G ∧ gn = G - k ∧ vi = .int .i64 (k : Int) ∧ OL bv 5 W.heap.size wr ia G ic l' ∧ Ch (fun b => ∃ q, ia = some q ∧ q.block = b) w20 wr)
    case atStart => exact ⟨0, F2.data, by omega, by omega, rfl, oI10, Ch.refl _ _⟩
    case round =>
      obtain ⟨k, l', hk, rfl, rfl, hO, kD⟩ := hrel
      have bx4 := kD.bx iI10 (fun ⟨q, e1, e2⟩ => by have := (hiaB q e1).1; omega)
      have x4 := (bx5 bx4).2.2.2.2
      rw [show (Value.slice ia F2.data.length ic) = .slice ia G ic by rw [HG2.out]] at x4
      by_cases hkl : k < G
      · rcases hO.ex with ⟨_, h0, _⟩ | ⟨gx, cur, hxa, hBx, hhx, hcx⟩
        · omega
        · obtain ⟨v, hv⟩ : ∃ v, l'[k]? = some v := ⟨_, List.getElem?_eq_getElem (by rw [hO.len]; exact hkl)⟩
          rw [hxa] at x4
          have hO2 := hO
          rw [hxa] at hO2
          obtain ⟨c1, c2⟩ := hO2.cellAt hv
          unfold bv at c1
          obtain ⟨z, hz⟩ : ∃ z : UInt8, ((v.toNat : Int) + 1) % 256 = (z.toNat : Int) := ⟨v + 1, by rw [UInt8.toNat_add]; show _ = (((v.toNat + 1) % 256 : Nat) : Int); omega⟩
          have hO3 : OL bv 5 W.heap.size (wr.setCell ⟨gx, k, none⟩ (.int .u8 (z.toNat : Int))) (some ⟨gx, 0, none⟩) G ic (l'.set k z) := hO2.set z
          have kD3 : Ch (fun b => ∃ q, ia = some q ∧ q.block = b) w20 (wr.setCell ⟨gx, k, none⟩ (.int .u8 (z.toNat : Int))) := kD.setCell (p := ⟨gx, k, none⟩) (.inl ⟨_, hxa, rfl⟩) _
          rw [← hxa] at hO3
          have HXA := hid hxa
          clear hxa hhx hv bx4 hO hO2 oI10
          go_wp2
          go_roundg (G - (k + 1))
          case measure => omega
          case rel => exact ⟨k + 1, _, by omega, rfl, by go_num, hO3, kD3⟩
      · obtain rfl : G = k := by omega
        go_wp2
        go_ret
        exact ⟨rfl, ⟨mf d10 e10, a10, c10, S10, a7, c7, Lf ka kc, T7, h10.ch kD (fun b hb ⟨q, e1, e2⟩ => hSia q e1 (by rw [e2]; exact hb)), hI', hL10.ch kD (fun b hb ⟨q, e1, e2⟩ => (hT7 b hb).2.2 q e1 e2), hM', hR', hn', by rw [hwi, hpu]; exact kD.bx m10 (fun ⟨q, e1, e2⟩ => by have := (hiaB q e1).1; omega), hhm, hShm, fun e => (hT7 _ e).2.1 rfl, hTS10, kD.below gg10 (Nat.le_refl _) (fun b ⟨q, e1, e2⟩ => by have := (hiaB q e1).1; omega)⟩, kch.trans kD (fun b ⟨q, e1, e2⟩ => .inr (by rw [← e2]; exact hbs q e1))⟩
  · rw [if_pos (by simp [Region.wanted])]
    go_simp
    have hd2 : Below W6.heap.size W6 (W6.drew.alloc (.cells smZ 30)) := hd1.alloc hd1.size _
    refine hK _ _ ⟨.inl hd2, ?_⟩; clear hK K
    refine Rest.one (i := 4) (by kernel_rfl) rfl (fun K hK => ?_)
    refine draw_callF 22 (by kernel_rfl) (by simp [Region.wanted]) _ _ _ rfl (by simp [Act.eval]) #[.agg (smV R La lc L m.wire m.puts), .agg (frV F2 ka kc)] (by simp [Act.eval, Act.put]) _ (HRf.out (W6.drew.alloc (.cells smZ 30)) ka kc _ (hLT.below hd2) (rK6.below hd2) (fun q hq => Or.inr ⟨q, hq, rfl⟩) (Nat.le_trans (Nat.le_trans hgs (Nat.le_of_lt hW36)) hd2.size)) ?_
    rintro e w7 ⟨a7, c7, T7, rfl, l7, g7, t7⟩
    refine ⟨_, rfl, ?_⟩
    have g13 : Below W6.heap.size W6 w7 := bstep hd2 g7
    refine hK _ _ ⟨.inl g13, ?_⟩; clear hK K
    refine Rest.take (i := 5) (v := .tuple #[.agg (smV R a7 c7 (Lf ka kc) wi pu), .int .i64 (N : Int), .int .i64 en]) rfl (by kernel_rfl) (by kernel_rfl) (by kernel_rfl) (by kernel_rfl) (fun _ _ _ h => h) (.inl g13) (Or.inl ⟨by simp [Region.wanted], ?_⟩) ?_
    · intro w; go_simp
    refine Rest.take (i := 6) (v := .agg (smV R a7 c7 (Lf ka kc) wi pu)) rfl (by kernel_rfl) (by kernel_rfl) (by kernel_rfl) (by kernel_rfl) (fun _ _ _ h => h) (.inl g13) (Or.inl ⟨by simp [Region.wanted], ?_⟩) ?_
    · intro w; go_simp
    refine Rest.take (i := 7) (v := .int .i64 (N : Int)) rfl (by kernel_rfl) (by kernel_rfl) (by kernel_rfl) (by kernel_rfl) (fun _ _ _ h => h) (.inl g13) (Or.inl ⟨by simp [Region.wanted], ?_⟩) ?_
    · intro w; go_simp
    refine Rest.take (i := 8) (v := .int .i64 en) rfl (by kernel_rfl) (by kernel_rfl) (by kernel_rfl) (by kernel_rfl) (fun _ _ _ h => h) (.inl g13) (Or.inl ⟨by simp [Region.wanted], ?_⟩) ?_
    · intro w; go_simp
    have f3 : w7.heap[W6.heap.size]? = some (.cells smZ 30 (0, 0)) := bx_below (heap_alloc_new W6.drew _) g7
    refine Rest.one (i := 10) (by kernel_rfl) rfl (fun K hK => ?_)
    (with_reducible refine draw_storeR rowSm ?zp6gd ?zp6x ?zp6y ?zp6o W6.heap.size (smV R a7 c7 (Lf ka kc) wi pu) ?zp6hx ?zp6hy f3 ?zp6n ?zp6old (sm_ones _ _ _ _ _ _) ?zp6h)
    case zp6o => exact rfl
    case zp6gd => exact rfl
    case zp6hx => first | (simp [Act.eval]; done) | simp [Act.eval, Act.put]
    case zp6hy => first | (simp [Act.eval]; done) | simp [Act.eval, Act.put]
    case zp6n => rfl
    case zp6old => rfl
    refine hK _ _ ⟨.inr (thru_of (by kernel_rfl)), Rest.of_any _ _ _ _ (thru_of (by kernel_rfl)) ?_⟩; clear hK K
    have f8 := setRow_heap _ _ _ (smV R a7 c7 (Lf ka kc) wi pu) _ _ f3
    have g68 : Below W6.heap.size W6 (w7.setRow W6.heap.size (smV R a7 c7 (Lf ka kc) wi pu)) := below_setRow g13 (Nat.le_refl _) _
    have h3 : ∀ k, (W6.drew.alloc (.cells smZ 30)).heap.size ≤ k → W6.heap.size ≤ k := fun k h => Nat.le_trans hd2.size h
    have hz2 : (W6.drew.alloc (.cells smZ 30)).heap.size = W6.heap.size + 1 := by rw [heap_size_alloc]; rfl
    have hTL1 := hLT.tL
    have l8 := l7.ch ((Ch.refl (fun b => b = W6.heap.size) w7).setRow (.inl rfl) (smV R a7 c7 (Lf ka kc) wi pu)) (fun b hb e => by rcases t7 b hb with h | h; (have := hTL1 b h; omega); omega)
    clear f3 hz2 hTL1 g13 g7 l7 hd2
    generalize w7.setRow W6.heap.size (smV R a7 c7 (Lf ka kc) wi pu) = w8 at *
    refine wpAny_take (i := 11) (v := .int .i64 (N : Int)) rfl (by kernel_rfl) (by kernel_rfl) (by kernel_rfl) (fun _ _ _ h => h) (Or.inl ⟨by simp [Region.wanted], ?_⟩) ?_
    · intro w; go_simp
    refine wpAny_take (i := 12) (v := .int .i64 en) rfl (by kernel_rfl) (by kernel_rfl) (by kernel_rfl) (fun _ _ _ h => h) (Or.inl ⟨by simp [Region.wanted], ?_⟩) ?_
    · intro w; go_simp
    refine wpAny_done (by kernel_rfl) ?_ _
    have m8 := bx_below m6 g68
    have iI8 := bx_below iI6 g68
    have oI8 := oI6.below g68
    have hF8 := hF6.below g68
    have gg8 := bstep gg6 g68
    have z68 := g68.size
    have gr8 := bstep gr6 g68
    have hT7 : ∀ k, T7 k → ¬ S k ∧ k ≠ hm ∧ ∀ q, ia = some q → q.block ≠ k := fun k hk => by
      rcases t7 k hk with (h | ⟨q, hq, rfl⟩) | h
      · have h1 := hTlt k h
        exact ⟨hTS k h, fun e => hnT (by rw [← e]; exact h), fun q hq => by have := (hiaB q hq).1; omega⟩
      · have h1 := (hkaB q hq).1
        exact ⟨fun e => by have := hSL _ e; omega, by omega, fun q2 hq2 => by have := (hiaB q2 hq2).2; omega⟩
      · have h2 := h3 k h
        exact ⟨fun e => by have := hSL _ e; omega, by omega, fun q2 hq2 => by have := (hiaB q2 hq2).2; omega⟩
    have hiaS : ∀ q, ia = some q → ¬ S q.block := fun q hq e => by have := hSL _ e; have := (hiaB q hq).1; omega
    have hiS : ¬ S W.heap.size := fun e => by have := hSL _ e; omega
    clear m6 iI6 oI6 hF6 gg6 i6 o6 hLT rK6 HS hd1 t7 h3 hTlt g68
    go_upto_region 16 with (first
      | (with_reducible refine wpList_loadR rowSm rfl _ rfl _ rfl f8 rfl ?_)
      | (with_reducible refine wpList_storeR rowSm rfl _ _ rfl _ _ rfl rfl m8 rfl rfl (sm_ones _ _ _ _ _ _) ?_
         have k9 : Ch (fun b => b = hm) w8 (w8.setRow hm (smV R a7 c7 (Lf ka kc) wi pu)) := (Ch.refl (fun b => b = hm) w8).setRow (.inl rfl) _
         have hF9 := hF8.ch k9 (fun b hb e => hnS (e ▸ hb))
         have l9 := l8.ch k9 (fun b hb e => (hT7 b hb).2.1 e)
         have m9 := setRow_heap _ _ _ (smV R a7 c7 (Lf ka kc) wi pu) _ _ m8
         have iI9 := k9.bx iI8 (by omega)
         have oI9 := oI8.ch k9 (fun q hq e => by have := (hiaB q hq).1; omega)
         have gg9 := k9.below gg8 (Nat.le_refl _) (fun b hb => by rw [hb]; exact hhm)
         have z9 := k9.size
         clear hF8 l8 m8 oI8 iI8 gg8 f8
         generalize w8.setRow hm (smV R a7 c7 (Lf ka kc) wi pu) = W9 at *)
      | (with_reducible refine wpList_loadR rowF rfl _ rfl _ rfl iI9 rfl ?_)
      | (go_at_call 17; (with_reducible refine Calls.mono (HMl.out W9 ia ic hF9 (fun w' k => (by rw [HG2.out]; exact (oI9.ch k hiaS).rl))) ?_); rintro e w10 ⟨a10, c10, S10, d10, e10, rfl, h10, k10, hS10⟩))
    have hL10 := l9.ch k10 (fun b hb => (hT7 b hb).1)
    have m10 := k10.bx m9 hnS
    have iI10 := k10.bx iI9 hiS
    have oI10 := oI9.ch k10 hiaS
    have gg10 := k10.below gg9 (Nat.le_refl _) hSB
    have z910 := k10.size
    have kch := mt_ch (hm := hm) gr8 k9 k10
    have hbs : ∀ q, ia = some q → wr.heap.size ≤ q.block := fun q hq => by rw [HBE.out]; have := (hiaB q hq).1; omega
    have hTL9 := l9.tL
    have hSia : ∀ q, ia = some q → ¬ S10 q.block := fun q hq e => by
      rcases hS10 _ e with h | h
      · exact hiaS q hq h
      · have := (hiaB q hq).2; omega
    have hShm : ¬ S10 hm := fun e => by
      rcases hS10 _ e with h | h
      · exact hnS h
      · omega
    have hTS10 : ∀ k, T7 k → ¬ S10 k := fun k hk e => by
      rcases hS10 _ e with h | h
      · exact (hT7 k hk).1 h
      · have := hTL9 k hk; omega
    obtain ⟨hI', hM', hR', hn', hwi, hpu⟩ := HMf.out d10 e10 ka kc
    clear hF9 l9 m9 oI9 iI9 gg9 hTL9 hS10 k10
    have x4 := (bx5 iI10).2.2.2.2
    rw [show (Value.slice ia F2.data.length ic) = .slice ia G ic by rw [HG2.out]] at x4
    go_wp2
    clear x4
    obtain ⟨w20, hw20⟩ : ∃ w20, w20 = w10 := ⟨_, rfl⟩
    rw [← hw20]
    rw [← hw20] at iI10 h10 hL10 oI10 m10 gg10 z910 kch
    clear hw20
    go_loopg [106] G (fun gn vi wr => ∃ (k : Nat) (l' : List UInt8), k ≤ G ∧ gn = G - k ∧ vi = .int .i64 (k : Int) ∧ OL bv 5 W.heap.size wr ia G ic l' ∧ Ch (fun b => ∃ q, ia = some q ∧ q.block = b) w20 wr)
    case atStart => exact ⟨0, F2.data, by omega, by omega, rfl, oI10, Ch.refl _ _⟩
    case round =>
      obtain ⟨k, l', hk, rfl, rfl, hO, kD⟩ := hrel
      have bx4 := kD.bx iI10 (fun ⟨q, e1, e2⟩ => by have := (hiaB q e1).1; omega)
      have x4 := (bx5 bx4).2.2.2.2
      rw [show (Value.slice ia F2.data.length ic) = .slice ia G ic by rw [HG2.out]] at x4
      by_cases hkl : k < G
      · rcases hO.ex with ⟨_, h0, _⟩ | ⟨gx, cur, hxa, hBx, hhx, hcx⟩
        · omega
        · obtain ⟨v, hv⟩ : ∃ v, l'[k]? = some v := ⟨_, List.getElem?_eq_getElem (by rw [hO.len]; exact hkl)⟩
          rw [hxa] at x4
          have hO2 := hO
          rw [hxa] at hO2
          obtain ⟨c1, c2⟩ := hO2.cellAt hv
          unfold bv at c1
          obtain ⟨z, hz⟩ : ∃ z : UInt8, ((v.toNat : Int) + 1) % 256 = (z.toNat : Int) := ⟨v + 1, by rw [UInt8.toNat_add]; show _ = (((v.toNat + 1) % 256 : Nat) : Int); omega⟩
          have hO3 : OL bv 5 W.heap.size (wr.setCell ⟨gx, k, none⟩ (.int .u8 (z.toNat : Int))) (some ⟨gx, 0, none⟩) G ic (l'.set k z) := hO2.set z
          have kD3 : Ch (fun b => ∃ q, ia = some q ∧ q.block = b) w20 (wr.setCell ⟨gx, k, none⟩ (.int .u8 (z.toNat : Int))) := kD.setCell (p := ⟨gx, k, none⟩) (.inl ⟨_, hxa, rfl⟩) _
          rw [← hxa] at hO3
          have HXA := hid hxa
          clear hxa hhx hv bx4 hO hO2 oI10
          go_wp2
          go_roundg (G - (k + 1))
          case measure => omega
          case rel => exact ⟨k + 1, _, by omega, rfl, by go_num, hO3, kD3⟩
      · obtain rfl : G = k := by omega
        go_wp2
        go_ret
        exact ⟨rfl, ⟨mf d10 e10, a10, c10, S10, a7, c7, Lf ka kc, T7, h10.ch kD (fun b hb ⟨q, e1, e2⟩ => hSia q e1 (by rw [e2]; exact hb)), hI', hL10.ch kD (fun b hb ⟨q, e1, e2⟩ => (hT7 b hb).2.2 q e1 e2), hM', hR', hn', by rw [hwi, hpu]; exact kD.bx m10 (fun ⟨q, e1, e2⟩ => by have := (hiaB q e1).1; omega), hhm, hShm, fun e => (hT7 _ e).2.1 rfl, hTS10, kD.below gg10 (Nat.le_refl _) (fun b ⟨q, e1, e2⟩ => by have := (hiaB q e1).1; omega)⟩, kch.trans kD (fun b ⟨q, e1, e2⟩ => .inr (by rw [← e2]; exact hbs q e1))⟩
end Go.Proofs.Ytffbkcjkmhjfnaa
