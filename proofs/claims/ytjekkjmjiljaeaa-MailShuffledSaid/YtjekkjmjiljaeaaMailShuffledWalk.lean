/-
  The walk of the statement MailShuffled: for any frames and numbers it returns true, and nothing that was there has changed.
-/
import Derived.Test.YtjekkjmjiljaeaaB10p
import Derived.Test.YtjekkjmjiljaeaaMu
import Derived.Test.YtjekkjmjiljaeaaMs
namespace Go.Proofs.Ytjekkjmjiljaeaa
open Go.RowKit Go.Sort Go.Maps
set_option linter.unusedVariables false

/-- The frames that are kept: right, of unlike keys. -/
structure InsG (ins fs : List Ff) : Prop where
  sub : ∀ p ∈ ins, p ∈ fs
  ri : ∀ p ∈ ins, riF p.1.id p.1.ext p.1.rem p.1.dlc p.1.data.length = true
  nd : (ins.map kF).Nodup
theorem InsG.new (fs : List Ff) : InsG [] fs := ⟨fun p hp => (by cases hp), fun p hp => (by cases hp), by simp⟩
theorem InsG.put {ins fs : List Ff} (h : InsG ins fs) {p : Ff} (hp : p ∈ fs) (hr : riF p.1.id p.1.ext p.1.rem p.1.dlc p.1.data.length = true) (hk : kF p ∉ ins.map kF) : InsG (ins ++ [p]) fs :=
  ⟨fun q hq => (List.mem_append.1 hq).elim (h.sub q) (fun e => by simp at e; subst e; exact hp), fun q hq => (List.mem_append.1 hq).elim (h.ri q) (fun e => by simp at e; subst e; exact hr), by
    rw [List.map_append, List.nodup_append]
    exact ⟨h.nd, by simp, fun a ha b hb e => hk (by simp at hb; subst hb; subst e; exact ha)⟩⟩

/-- One key given up of unlike ones. -/
theorem kyL_len {l : List Ff} {q : Ff} (hnd : (l.map kF).Nodup) (hq : q ∈ l) : (kyL (kF q) l).length + 1 = l.length := by
  have hm : kF q ∈ l.map kF := List.mem_map_of_mem hq
  have e : kyL (kF q) l = (l.map kF).erase (kF q) := by
    rw [hnd.erase_eq_filter]
    unfold kyL
    exact List.filter_congr fun x _ => by by_cases h : x = kF q <;> simp [h]
  rw [e, List.length_erase_of_mem hm, List.length_map]
  have := List.length_pos_of_mem hq
  omega
theorem kyL_perm {ko : Nat} {l m : List Ff} (h : l.Perm m) : (kyL ko l).Perm (kyL ko m) := (h.map kF).filter _
theorem kyL_not (ko : Nat) (l : List Ff) : ko ∉ kyL ko l := fun h => by simp [kyL] at h

set_option maxRecDepth 100000 in
set_option maxHeartbeats 16000000 in
theorem mailShuffled_walk (w : World) (a0 : Option Addr) (n0 c0 : Nat) (fs : List Ff) (turn gone : Nat)
    (hf : FrR w a0 n0 c0 fs) (ht : turn < 256) (hgn : gone < 256) (hd : ∀ p ∈ fs, p.1.data.length ≤ 9223372036854775807) (m0 : n0 ≤ 9223372036854775807) :
    Calls Try.prog 8 #[.slice a0 n0 c0, .int .u8 (turn : Int), .int .u8 (gone : Int)] w fun e w' => e = .returned (.bool true) ∧ Below w.heap.size w w' := by
  obtain ⟨L, hmin, hL1, hL2⟩ : ∃ L : Nat, (∀ ts t w', (Builtin.min_ ts t #[.int .i64 (n0 : Int), .int .i64 30]).run Try.prog w' = .ok (.int .i64 (L : Int)) w') ∧ L ≤ n0 ∧ L ≤ 30 := by
    refine ⟨min n0 30, fun ts t w' => ?_, by omega, by omega⟩
    rw [run_min_int2]; congr 2; split <;> omega
  have hmm := @run_makeMap Try.prog
  have HF := hid hf; clear hf hd
  obtain ⟨w2, hw2, hbI0, hM0, gg0⟩ : ∃ w2, Hid ((w.alloc (.cells #[.slice none 0 0] 47)).alloc (.map #[] 0) = w2) ∧ w2.heap[w.heap.size]? = some (.cells #[.slice none 0 0] 47 (0, 0)) ∧ MU w2 (w.heap.size + 1) 0 (.map []) ∧ Below w.heap.size w w2 := by
    refine ⟨_, rfl, bx_alloc _ (heap_alloc_new w _), ?_, bnew (bnew0 w _) _⟩
    have := World.ownsMap_made (H := Unit) (w.alloc (.cells #[.slice none 0 0] 47)) Try.prog 31 (plainElem Try.prog 3)
    rwa [heap_size_alloc] at this
  go_enter Try.func8, Try.ntmps8
  go_wp2_with (first
    | (rw [hw2.out])
    | (with_reducible refine wpList_cutToK0 elF rfl _ _ rfl _ _ L rfl rfl rfl HF.out.row hL1 ?_; intro a5 hr5))
  go_loopg [27] L (fun gn vi wr => ∃ (k : Nat) (ai : Option Addr) (ni ci : Nat) (ins : List Ff) (D : DataW Unit) (nD : Nat), k ≤ L ∧ gn = L - k ∧ vi = .int .i64 (k : Int) ∧ wr.heap[w.heap.size]? = some (.cells #[.slice ai ni ci] 47 (0, 0)) ∧ MU wr (w.heap.size + 1) nD D ∧ HitU D (ins.map kF) ∧ nD ≤ ni ∧ OK enF 5 34 (w.heap.size + 2) wr ai ni ci ins ∧ InsG ins fs ∧ ni ≤ k ∧ w.heap.size + 2 ≤ wr.heap.size ∧ Below w.heap.size w wr)
  case atStart => exact ⟨0, none, 0, 0, [], _, 0, by omega, by omega, rfl, hbI0, hM0, hitU_made, Nat.le_refl _, OK.nil _ _ _ _ _, InsG.new fs, Nat.le_refl _, by have := hM0.lt; omega, gg0⟩
  case round =>
    obtain ⟨k, ai, ni, ci, ins, D, nD, hk, rfl, rfl, hbI, hM, hD, hnD, hO, hG, hnk, hsz, gg⟩ := hrel
    clear hbI0 hM0 gg0 hw2
    by_cases hlt : k < L
    · obtain ⟨p, hp⟩ : ∃ p, (fs.take L)[k]? = some p := ⟨_, List.getElem?_eq_getElem (by rw [hr5.len]; exact hlt)⟩
      have hpm : p ∈ fs := List.mem_of_mem_take (List.mem_of_getElem? hp)
      obtain ⟨gb, off, rfl, hgb, hrg⟩ := (hr5.below gg).range hp
      have hid' := HF.out.id p hpm
      have hdl' := HF.out.dl p hpm
      have b2 := heap_alloc_new wr (.cells frZr 34)
      have k2 : Below wr.heap.size wr ((wr.alloc (.cells frZr 34)).setRow wr.heap.size (frV p.1 p.2.1 p.2.2)) := below_setRow (bnew0 wr _) (Nat.le_refl _) _
      have b3 : ((wr.alloc (.cells frZr 34)).setRow wr.heap.size (frV p.1 p.2.1 p.2.2)).heap[wr.heap.size]? = some (.cells (frV p.1 p.2.1 p.2.2) 34 (0, 0)) := setRow_heap _ _ _ _ _ _ b2
      have cK : ∀ w', Calls Try.prog 19 #[.agg (frV p.1 p.2.1 p.2.2)] w' fun e w'' => e = .returned (.int .u32 (kF p : Int)) ∧ Below w'.heap.size w' w'' := fun w' => key_any w' _ _ _ _ _ _ _ hid'
      have hRi := fun w' => frRight_any w' p.1.id p.1.ext p.1.rem p.1.dlc p.2.1 p.1.data.length p.2.2 hid' hdl'
      have hky : kF p < 4294967296 := key_lt _ _ _
      have hwf := wfU (kF p) hky
      obtain ⟨cv, hat, hc0, hc1, hc2⟩ := hD.2 (kF p)
      have HAT := hid hat; clear hat
      have HD := hid hD
      have HG := hid hG
      have HPM := hid hpm
      have hil : ins.length = ni := hO.len
      clear hD hG hp hpm
      cases hri : riF p.1.id p.1.ext p.1.rem p.1.dlc p.1.data.length
      · rw [hri] at hRi
        clear hri hc2
        go_wp2_with (first
          | (with_reducible refine wpList_loadM rowF rfl _ rfl _ _ rfl (frV p.1 p.2.1 p.2.2) hrg rfl ?_)
          | (with_reducible refine wpList_storeR rowF rfl _ _ rfl _ _ rfl rfl b2 rfl rfl (fr_ones _ _ _) ?_)
          | (with_reducible refine wpList_loadR rowF rfl _ rfl _ rfl b3 rfl ?_)
          | (go_at_call 19; (with_reducible refine (cK _).mono ?_); rintro e w3 ⟨rfl, g3⟩; have b33 := bx_below b3 g3)
          | (with_reducible refine wpList_loadR rowF rfl _ rfl _ rfl b33 rfl ?_)
          | (go_at_call 18; (with_reducible refine (hRi _).mono ?_); rintro e w4 ⟨rfl, g4⟩))
        have k4 := bstep (bstep k2 g3) g4
        go_roundg (L - (k + 1))
        case measure => omega
        case rel => exact ⟨k + 1, ai, ni, ci, ins, D, nD, by omega, rfl, by go_num, bx_below hbI k4, hM.below k4, HD.out, hnD, hO.below k4, HG.out, by omega, Nat.le_trans hsz k4.size, bstep gg k4⟩
      · rw [hri] at hRi
        have HRI := hid hri
        clear hri
        by_cases hcz : cv = 0
        · subst hcz
          have HNI := hid (hc2.1 rfl)
          have hmx : nD < maxLen := Nat.lt_of_le_of_lt (by omega : nD ≤ 30) (by decide)
          clear hc2
          go_wp2_with (first
            | (with_reducible refine wpList_loadM rowF rfl _ rfl _ _ rfl (frV p.1 p.2.1 p.2.2) hrg rfl ?_)
            | (with_reducible refine wpList_storeR rowF rfl _ _ rfl _ _ rfl rfl b2 rfl rfl (fr_ones _ _ _) ?_)
            | (with_reducible refine wpList_loadR rowF rfl _ rfl _ rfl b3 rfl ?_)
            | (go_at_call 19; (with_reducible refine (cK _).mono ?_); rintro e w3 ⟨rfl, g3⟩; have b33 := bx_below b3 g3)
            | (with_reducible refine wpList_loadR rowF rfl _ rfl _ rfl b33 rfl ?_)
            | (go_at_call 18; (with_reducible refine (hRi _).mono ?_); rintro e w4 ⟨rfl, g4⟩
               have k4 := bstep (bstep k2 g3) g4
               have b44 := bx_below b33 g4
               have hM4 := hM.below k4
               have hl4 := mu_look hM4 HAT.out hwf
               have gg4 := bstep gg k4
               have hO4 := hO.below k4
               have hb4 := bx_below hbI k4
               have z4 : w.heap.size + 2 ≤ w4.heap.size := Nat.le_trans hsz k4.size)
            | (at_mapUpdate; refine wpList_mapUpdate_own _ rfl _ _ _ 63 rfl 31 3 lawU Try.underlying63 _ (w.heap.size + 1) nD D rfl hM4 hmx _ (.int .i64 (0 + 1)) (.int .u32 (kF p : Int)) rfl rfl (keyOf_int_mk Try.underlying31 hwf) (.lit (.int .i64 (0 + 1))) [] (plainElem_int Try.underlying3 (wf64 _ (by omega) (by omega))) ?_; intro w5 hM5 hgr5
               have k5 : ∀ b, b < w4.heap.size → b ≠ w.heap.size + 1 → w5.heap[b]? = w4.heap[b]? := fun b hb hn => hgr5.block b hb (fun e => hn (by simpa using e))
               have hb5 := (k5 w.heap.size (by omega) (by omega)).trans hb4
               have b55 := (k5 wr.heap.size (bx_lt b44) (by omega)).trans b44
               have q5 : w5.cell? ⟨w.heap.size, 0, none⟩ = some (.slice ai ni ci) := by rw [cell_of_row w5 w.heap.size 0 _ _ _ hb5]; rfl
               have z5 := hgr5.size
               have hO5 := hO4.kept (w' := w5) (fun b hb => k5 b (hO4.ltB hb).1 (by have := (hO4.ltB hb).2; dsimp only at this; omega))
               have hown := hO5.alloc (.cells (frV p.1 p.2.1 p.2.2) 34)
               have hsrc := (ok_lit enF_k 34 0 w5 [(p.1, (p.2.1, p.2.2))] (frV p.1 p.2.1 p.2.2) 1 rfl rfl (by omega) (Nat.zero_le _)).rk enF_k
               have hba : w.heap.size + 2 ≤ (w5.alloc (.cells (frV p.1 p.2.1 p.2.2) 34)).heap.size := by rw [heap_size_alloc]; omega
               have hbA := bx_alloc (.cells (frV p.1 p.2.1 p.2.2) 34) hb5)
            | (with_reducible refine wpList_loadR rowF rfl _ rfl _ rfl b55 rfl ?_)
            | (at_builtin; refine wpList_appgK elF enF_k rfl _ _ rfl rfl hown rfl hsrc (by omega) (by omega) (by omega) hba ?_; intro w7 a7 c7 o7 g7 k7 z7
               have hb7 := (k7 w.heap.size (by rw [heap_size_alloc]; omega) (fun q hq => by have := (hO5.ltB hq).2; omega)).1.trans hbA
               have hz7 := bx_thaw hb7
               have q7 : w7.cell? ⟨w.heap.size, 0, none⟩ = some (.slice ai ni ci) := by rw [cell_of_row w7 w.heap.size 0 _ _ _ hb7]; rfl))
          have gg5 := gg4.grown hgr5 gg4.size (fun q hq => by cases hq; omega)
          have gg7 := ((bnew gg5 (.cells (frV p.1 p.2.1 p.2.2) 34)).trans (g7.mono (by omega))).setCell (p := ⟨w.heap.size, 0, none⟩) (Nat.le_refl _) (.slice a7 (ni + 1) c7)
          have hM7 : MU (w7.setCell ⟨w.heap.size, 0, none⟩ (.slice a7 (ni + 1) c7)) (w.heap.size + 1) (nD + 1) (D.put (.int .u32 (kF p : Int)) (.lit (.int .i64 (0 + 1)))) :=
            MU.at hM5 ((Below.heap_setCell _ _ _ _ (by show w.heap.size + 1 ≠ w.heap.size; omega)).trans ((k7 (w.heap.size + 1) (by rw [heap_size_alloc]; omega) (fun q hq => by have := (hO5.ltB hq).2; omega)).1.trans (Below.heap_alloc _ _ _ (by omega))))
          go_roundg (L - (k + 1))
          case measure => omega
          case rel => exact ⟨k + 1, a7, ni + 1, c7, ins ++ [(p.1, (p.2.1, p.2.2))], _, nD + 1, by omega, rfl, by go_num, heap_setCell_same w7 w.heap.size 0 _ _ _ hb7, hM7, by rw [List.map_append]; exact hitU_put HD.out HAT.out, by omega, o7.kept (fun b hb => Below.heap_setCell _ _ _ _ (by have := (o7.ltB hb).2; dsimp only at this ⊢; omega)), HG.out.put HPM.out HRI.out HNI.out, by omega, by have := z7; have := z5; rw [heap_size_alloc] at *; simp [World.setCell]; omega, gg7⟩
        · have hb0 : (cv == 0) = false := by rw [beq_eq_false_iff_ne]; exact hcz
          clear hcz hc2
          go_wp2_with (first
            | (with_reducible refine wpList_loadM rowF rfl _ rfl _ _ rfl (frV p.1 p.2.1 p.2.2) hrg rfl ?_)
            | (with_reducible refine wpList_storeR rowF rfl _ _ rfl _ _ rfl rfl b2 rfl rfl (fr_ones _ _ _) ?_)
            | (with_reducible refine wpList_loadR rowF rfl _ rfl _ rfl b3 rfl ?_)
            | (go_at_call 19; (with_reducible refine (cK _).mono ?_); rintro e w3 ⟨rfl, g3⟩; have b33 := bx_below b3 g3)
            | (with_reducible refine wpList_loadR rowF rfl _ rfl _ rfl b33 rfl ?_)
            | (go_at_call 18; (with_reducible refine (hRi _).mono ?_); rintro e w4 ⟨rfl, g4⟩
               have k4 := bstep (bstep k2 g3) g4
               have hl4 := mu_look (hM.below k4) HAT.out hwf))
          go_roundg (L - (k + 1))
          case measure => omega
          case rel => exact ⟨k + 1, ai, ni, ci, ins, D, nD, by omega, rfl, by go_num, bx_below hbI k4, hM.below k4, HD.out, hnD, hO.below k4, HG.out, by omega, Nat.le_trans hsz k4.size, bstep gg k4⟩
    · obtain rfl : k = L := by omega
      have q0 : wr.cell? ⟨w.heap.size, 0, none⟩ = some (.slice ai ni ci) := by rw [cell_of_row wr w.heap.size 0 _ _ _ hbI]; rfl
      clear hM hD hnD hr5
      by_cases hn0 : ni = 0
      · subst hn0
        go_wp2_with (first
          | (go_at_call 10; (with_reducible refine (awake10_any wr).mono ?_); rintro e w5 ⟨rfl, g5⟩))
        go_ret
        exact ⟨rfl, bstep gg g5⟩
      · have hne : ((ni : Int) == 0) = false := by rw [beq_eq_false_iff_ne]; omega
        go_wp2
        have hn1 : 1 ≤ ni := by omega
        obtain ⟨kq, hkt, hkq⟩ : ∃ kq : Nat, Int.tmod (turn : Int) (ni : Int) = (kq : Int) ∧ kq < ni := ⟨turn % ni, by rw [Int.tmod_eq_emod_of_nonneg (by omega)]; omega, Nat.mod_lt _ hn1⟩
        obtain ⟨oq, hot, hoq⟩ : ∃ oq : Nat, Int.tmod (gone : Int) (ni : Int) = (oq : Int) ∧ oq < ni := ⟨gone % ni, by rw [Int.tmod_eq_emod_of_nonneg (by omega)]; omega, Nat.mod_lt _ hn1⟩
        have hkw : IntKind.i64.wrap (kq : Int) = (kq : Int) := IntWalk.i64_in _ (by omega)
        have how : IntKind.i64.wrap (oq : Int) = (oq : Int) := IntWalk.i64_in _ (by omega)
        have htw : IntKind.i64.wrap (turn : Int) = (turn : Int) := IntWalk.i64_in _ (by omega)
        have hgw : IntKind.i64.wrap (gone : Int) = (gone : Int) := IntWalk.i64_in _ (by omega)
        have hd0 : Below wr.heap.size wr wr.drew := (Below.refl _ _).drew
        have HS : Below wr.heap.size wr wr.drew := hd0
        have hin : ∀ w', Below wr.heap.size wr w' → w'.cell? ⟨w.heap.size, 0, none⟩ = some (.slice ai ni ci) := fun w' hw => (hw.cell (p := ⟨w.heap.size, 0, none⟩) (bx_lt hbI)).trans q0
        refine Rest.begin (S := fun w' => Below wr.heap.size wr w') (X := [12]) (by kernel_rfl) ?_
        change Rest _ _ _ _ _ _ _ _ _ wr.drew
        refine Rest.take (i := 0) (v := .int .u8 (turn : Int)) rfl (by kernel_rfl) (by kernel_rfl) (by kernel_rfl) (by kernel_rfl) (fun _ _ _ h => h) (.inl HS) (Or.inl ⟨by simp [Region.wanted], ?_⟩) ?_
        · intro w; go_simp
        refine Rest.take (i := 1) (v := .int .i64 (turn : Int)) rfl (by kernel_rfl) (by kernel_rfl) (by kernel_rfl) (by kernel_rfl) (fun _ _ _ h => h) (.inl HS) (Or.inl ⟨by simp [Region.wanted], ?_⟩) ?_
        · intro w; go_simp
        refine Rest.takeS (i := 2) (v := .slice ai ni ci) rfl (by kernel_rfl) (by kernel_rfl) (by kernel_rfl) (by kernel_rfl) (fun _ _ _ h => h) HS (.inl ⟨by simp [Region.wanted], ?_⟩) ?_
        · intro w hw; have q := hin w hw; go_simp
        refine Rest.take (i := 3) (v := .int .i64 (ni : Int)) rfl (by kernel_rfl) (by kernel_rfl) (by kernel_rfl) (by kernel_rfl) (fun _ _ _ h => h) (.inl HS) (Or.inl ⟨by simp [Region.wanted], ?_⟩) ?_
        · intro w; go_simp
        refine Rest.take (i := 4) (v := .int .i64 (kq : Int)) rfl (by kernel_rfl) (by kernel_rfl) (by kernel_rfl) (by kernel_rfl) (fun _ _ _ h => h) (.inl HS) (Or.inl ⟨by simp [Region.wanted], ?_⟩) ?_
        · intro w; go_simp
        refine Rest.take (i := 5) (v := .int .u8 (gone : Int)) rfl (by kernel_rfl) (by kernel_rfl) (by kernel_rfl) (by kernel_rfl) (fun _ _ _ h => h) (.inl HS) (Or.inl ⟨by simp [Region.wanted], ?_⟩) ?_
        · intro w; go_simp
        refine Rest.take (i := 6) (v := .int .i64 (gone : Int)) rfl (by kernel_rfl) (by kernel_rfl) (by kernel_rfl) (by kernel_rfl) (fun _ _ _ h => h) (.inl HS) (Or.inl ⟨by simp [Region.wanted], ?_⟩) ?_
        · intro w; go_simp
        refine Rest.takeS (i := 7) (v := .slice ai ni ci) rfl (by kernel_rfl) (by kernel_rfl) (by kernel_rfl) (by kernel_rfl) (fun _ _ _ h => h) HS (.inl ⟨by simp [Region.wanted], ?_⟩) ?_
        · intro w hw; have q := hin w hw; go_simp
        refine Rest.take (i := 8) (v := .int .i64 (ni : Int)) rfl (by kernel_rfl) (by kernel_rfl) (by kernel_rfl) (by kernel_rfl) (fun _ _ _ h => h) (.inl HS) (Or.inl ⟨by simp [Region.wanted], ?_⟩) ?_
        · intro w; go_simp
        refine Rest.take (i := 9) (v := .int .i64 (oq : Int)) rfl (by kernel_rfl) (by kernel_rfl) (by kernel_rfl) (by kernel_rfl) (fun _ _ _ h => h) (.inl HS) (Or.inl ⟨by simp [Region.wanted], ?_⟩) ?_
        · intro w; go_simp
        refine Rest.one (i := 10) (by kernel_rfl) rfl (fun K hK => ?_)
        rw [if_pos (by simp [Region.wanted])]
        go_simp
        refine hK _ _ ⟨.inl (hd0.alloc (Nat.le_refl _) _), ?_⟩; clear hK K
        refine Rest.one (i := 11) (by kernel_rfl) rfl (fun K hK => ?_)
        rw [if_pos (by simp [Region.wanted])]
        go_simp
        refine hK _ _ ⟨.inl (hd0.alloc (Nat.le_refl _) _), ?_⟩; clear hK K
        have hbW : ((wr.alloc (.cells #[.int .i64 0] 3)).drew).heap[wr.heap.size]? = some (.cells #[.int .i64 0] 3 (0, 0)) := heap_alloc_new wr _
        have hqW : ((wr.alloc (.cells #[.int .i64 0] 3)).drew).cell? ⟨wr.heap.size, 0, none⟩ = some (.int .i64 0) := by rw [cell_of_row _ wr.heap.size 0 _ _ _ hbW]; rfl
        have hzW := bx_thaw hbW
        refine Rest.one (i := 12) (by kernel_rfl) rfl (fun K hK => ?_)
        rw [if_pos (by simp [Region.wanted])]
        go_simp
        refine hK _ _ ⟨.inr (thru_of (by kernel_rfl)), Rest.of_any _ _ _ _ (thru_of (by kernel_rfl)) ?_⟩; clear hK K
        refine wpAny_done (by kernel_rfl) ?_ _
        clear HS hin hbW hqW hzW hkw how htw hgw
        obtain ⟨w6, hw6, hbI6, hbO, hO6, gg6, k6⟩ : ∃ w6, Hid ((wr.alloc (.cells #[.int .i64 (oq : Int)] 3)).drew = w6) ∧ w6.heap[w.heap.size]? = some (.cells #[.slice ai ni ci] 47 (0, 0)) ∧ w6.heap[wr.heap.size]? = some (.cells #[.int .i64 (oq : Int)] 3 (0, 0)) ∧ OK enF 5 34 (w.heap.size + 2) w6 ai ni ci ins ∧ Below w.heap.size w w6 ∧ Below wr.heap.size wr w6 := by
          have kk : Below wr.heap.size wr (wr.alloc (.cells #[.int .i64 (oq : Int)] 3)).drew := (bnew0 wr _).drew
          exact ⟨_, rfl, bx_below hbI kk, heap_alloc_new wr _, hO.below kk, bstep gg kk, kk⟩
        rw [hw6.out]
        clear hw6 hd0
        have q6 : w6.cell? ⟨w.heap.size, 0, none⟩ = some (.slice ai ni ci) := by rw [cell_of_row w6 w.heap.size 0 _ _ _ hbI6]; rfl
        have qO6 : w6.cell? ⟨wr.heap.size, 0, none⟩ = some (.int .i64 (oq : Int)) := by rw [cell_of_row w6 wr.heap.size 0 _ _ _ hbO]; rfl
        have hil : ins.length = ni := hO.len
        have hFG : ∀ w', Below w.heap.size w w' → FrG w' ins := fun w' g => ⟨fun p hp => (HF.out.dat p (hG.sub p hp)).below g, fun p hp => HF.out.id p (hG.sub p hp), fun p hp => HF.out.dl p (hG.sub p hp), hG.ri⟩
        obtain ⟨qo, hqo⟩ : ∃ qo, ins[oq]? = some qo := ⟨_, List.getElem?_eq_getElem (by omega)⟩
        have hqi : qo.1.id < 4294967296 := HF.out.id qo (hG.sub qo (List.mem_of_getElem? hqo))
        have cS := shuf_any w6 ai ni ci ins w.heap.size wr.heap.size ai ni ci ins oq qo (hO6.rk enF_k) (hFG w6 gg6) (by omega) hG.nd q6 qO6 (bx_lt hbI6) (bx_lt hbO) (hO6.rk enF_k) hqo hqi
        have HQ := hid hqo
        have HG := hid hG
        clear hqo hG
        go_wp2_with (first
          | (go_at_call 27; (with_reducible refine cS.mono ?_); rintro e w7 ⟨ak, ck, ks, rfl, ok7, srt7, all7, g7⟩))
        have hbI7 := bx_below hbI6 g7
        have hbO7 := bx_below hbO g7
        have gg7 := bstep gg6 g7
        have hO7 := hO6.below g7
        have hR7 : RK enF 5 w7 ai ni ci ins := (hO6.rk enF_k).below g7
        have q7 : w7.cell? ⟨w.heap.size, 0, none⟩ = some (.slice ai ni ci) := by rw [cell_of_row w7 w.heap.size 0 _ _ _ hbI7]; rfl
        obtain ⟨aF, hcF, hRF⟩ := cutFrom_eq elF hR7 .i64 kq (by omega)
        obtain ⟨aT, hcT, hRT⟩ := cutTo_eq elF hR7 .i64 kq (by omega)
        have hd7 : Below w7.heap.size w7 w7.drew := (Below.refl _ _).drew
        have HS : Below w7.heap.size w7 w7.drew := hd7
        have hin7 : ∀ w', Below w7.heap.size w7 w' → w'.cell? ⟨w.heap.size, 0, none⟩ = some (.slice ai ni ci) := fun w' hw => (hw.cell (p := ⟨w.heap.size, 0, none⟩) (bx_lt hbI7)).trans q7
        clear q0 q6 qO6 cS hbI6 hbO hO6 q7
        refine Rest.begin (S := fun w' => Below w7.heap.size w7 w') (X := [4, 5, 8, 9]) (by kernel_rfl) ?_
        change Rest _ _ _ _ _ _ _ _ _ w7.drew
        refine Rest.take (i := 0) (v := .func (.func 27) #[] #[.pointer (some ⟨w.heap.size, 0, none⟩), .pointer (some ⟨wr.heap.size, 0, none⟩)]) rfl (by kernel_rfl) (by kernel_rfl) (by kernel_rfl) (by kernel_rfl) (fun _ _ _ h => h) (.inl HS) (Or.inl ⟨by simp [Region.wanted], ?_⟩) ?_
        · intro w; go_simp
        refine Rest.take (i := 3) (v := .int .i64 (kq : Int)) rfl (by kernel_rfl) (by kernel_rfl) (by kernel_rfl) (by kernel_rfl) (fun _ _ _ h => h) (.inl HS) (Or.inl ⟨by simp [Region.wanted], ?_⟩) ?_
        · intro w; go_simp
        refine Rest.take (i := 7) (v := .int .i64 (kq : Int)) rfl (by kernel_rfl) (by kernel_rfl) (by kernel_rfl) (by kernel_rfl) (fun _ _ _ h => h) (.inl HS) (Or.inl ⟨by simp [Region.wanted], ?_⟩) ?_
        · intro w; go_simp
        refine Rest.takeS (i := 2) (v := .slice ai ni ci) rfl (by kernel_rfl) (by kernel_rfl) (by kernel_rfl) (by kernel_rfl) (fun _ _ _ h => h) HS (.inl ⟨by simp [Region.wanted], ?_⟩) ?_
        · intro w' hw; have q := hin7 w' hw; go_simp
        refine Rest.takeS (i := 6) (v := .slice ai ni ci) rfl (by kernel_rfl) (by kernel_rfl) (by kernel_rfl) (by kernel_rfl) (fun _ _ _ h => h) HS (.inl ⟨by simp [Region.wanted], ?_⟩) ?_
        · intro w' hw; have q := hin7 w' hw; go_simp
        refine Rest.takeS (i := 4) (v := .slice aF (ni - kq) (ci - kq)) rfl (by kernel_rfl) (by kernel_rfl) (by kernel_rfl) (by kernel_rfl) (fun _ _ _ h => h) HS (.inl ⟨by simp [Region.wanted], ?_⟩) ?_
        · intro w' hw; have q := hcF w'; go_simp
        refine Rest.takeS (i := 8) (v := .slice aT kq ci) rfl (by kernel_rfl) (by kernel_rfl) (by kernel_rfl) (by kernel_rfl) (fun _ _ _ h => h) HS (.inl ⟨by simp [Region.wanted], ?_⟩) ?_
        · intro w' hw; have q := hcT w'; go_simp
        refine Rest.one (i := 1) (by kernel_rfl) rfl (fun K hK => ?_)
        rw [if_pos (by simp [Region.wanted])]
        go_simp
        refine hK _ _ ⟨.inl (hd7.alloc (Nat.le_refl _) _), ?_⟩; clear hK K
        have b7 : Below w7.heap.size w7 (w7.alloc (.cells #[] 34)).drew := (bnew0 w7 _).drew
        have hown : OK enF 5 34 w7.heap.size (w7.alloc (.cells #[] 34)).drew (some ⟨w7.heap.size, 0, none⟩) 0 0 [] := ok_lit enF_k 34 w7.heap.size w7 [] #[] 0 rfl rfl (by omega) (Nat.le_refl _)
        refine Rest.one (i := 5) (by kernel_rfl) rfl (fun K hK => ?_)
        refine step_appgK0 elF enF_k rfl (.tmp 73) (.tmp 76) rfl rfl hown rfl (hRF.below b7) (by omega) (by omega) b7.size ?_
        rintro w8 a8 c8 o8 g8 z8
        have g78 := b7.trans g8
        refine hK _ _ ⟨.inl g78, ?_⟩; clear hK K
        refine Rest.one (i := 9) (by kernel_rfl) rfl (fun K hK => ?_)
        refine step_appgK0 elF enF_k rfl (.tmp 77) (.tmp 80) rfl rfl o8 rfl (hRT.below g78) (by omega) (by omega) g78.size ?_
        rintro w9 a9 c9 o9 g9 z9
        have g79 := g78.trans g9
        refine hK _ _ ⟨.inr (thru_of (by kernel_rfl)), Rest.of_any _ _ _ _ (thru_of (by kernel_rfl)) ?_⟩; clear hK K
        clear HS hin7 hown b7 hcF hcT hRF hRT o8 g8 z8 g78 hd7 g9 z9
        obtain ⟨f2, hf2⟩ : ∃ f2, f2 = [] ++ ins.drop kq ++ ins.take kq := ⟨_, rfl⟩
        have hpm : f2.Perm ins := by rw [hf2, List.nil_append]; exact List.perm_append_comm.trans (by rw [List.take_append_drop])
        rw [← hf2] at o9
        clear hf2
        generalize hn2 : 0 + (ni - kq) + kq = n2 at *
        have hn2' : n2 = ni := by omega
        have hbI9 := bx_below hbI7 g79
        have hbO9 := bx_below hbO7 g79
        have q9 : w9.cell? ⟨w.heap.size, 0, none⟩ = some (.slice ai ni ci) := by rw [cell_of_row w9 w.heap.size 0 _ _ _ hbI9]; rfl
        have qO9 : w9.cell? ⟨wr.heap.size, 0, none⟩ = some (.int .i64 (oq : Int)) := by rw [cell_of_row w9 wr.heap.size 0 _ _ _ hbO9]; rfl
        have gg9 := bstep gg7 g79
        have hFG9 : FrG w9 f2 := ⟨fun p hp => (hFG w9 gg9).dat p (hpm.mem_iff.1 hp), fun p hp => (hFG w9 gg9).id p (hpm.mem_iff.1 hp), fun p hp => (hFG w9 gg9).dl p (hpm.mem_iff.1 hp), fun p hp => (hFG w9 gg9).ri p (hpm.mem_iff.1 hp)⟩
        have cS := shuf_any w9 a9 n2 c9 f2 w.heap.size wr.heap.size ai ni ci ins oq qo (o9.rk enF_k) hFG9 (by omega) ((hpm.map kF).nodup_iff.2 HG.out.nd) q9 qO9 (bx_lt hbI9) (bx_lt hbO9) (hR7.below g79) HQ.out hqi
        refine wpAny_ready (rs := [10]) (by kernel_rfl) (by simp) ?_
        refine AllReady.cons rfl (fun K hK => ?_) AllReady.nil
        refine draw_callC 27 (by kernel_rfl) (by simp [Region.wanted]) _ _ _ rfl #[.pointer (some ⟨w.heap.size, 0, none⟩), .pointer (some ⟨wr.heap.size, 0, none⟩)] (by simp [Act.eval, Act.put]) #[.slice a9 n2 c9, .pointer (some ⟨w.heap.size, 0, none⟩), .pointer (some ⟨wr.heap.size, 0, none⟩)] (by simp [Act.eval, Act.put]) _ cS ?_
        rintro e w10 ⟨bk, cb, kb, rfl, okb, srtb, allb, g10⟩
        refine ⟨_, rfl, ?_⟩
        refine hK _ _ ?_; clear hK K
        clear cS hFG9 q9 qO9
        refine wpAny_take (i := 11) (v := .tuple #[.slice bk (kyL (kF qo) f2).length cb, .bool true]) rfl (by kernel_rfl) (by kernel_rfl) (by kernel_rfl) (fun _ _ _ h => h) (Or.inl ⟨by simp [Region.wanted], ?_⟩) ?_
        · intro w; go_simp
        refine wpAny_take (i := 12) (v := .slice bk (kyL (kF qo) f2).length cb) rfl (by kernel_rfl) (by kernel_rfl) (by kernel_rfl) (fun _ _ _ h => h) (Or.inl ⟨by simp [Region.wanted], ?_⟩) ?_
        · intro w; go_simp
        refine wpAny_take (i := 13) (v := .bool true) rfl (by kernel_rfl) (by kernel_rfl) (by kernel_rfl) (fun _ _ _ h => h) (Or.inl ⟨by simp [Region.wanted], ?_⟩) ?_
        · intro w; go_simp
        refine wpAny_take (i := 14) (v := .slice bk (kyL (kF qo) f2).length cb) rfl (by kernel_rfl) (by kernel_rfl) (by kernel_rfl) (fun _ _ _ h => h) (Or.inl ⟨by simp [Region.wanted], ?_⟩) ?_
        · intro w; go_simp
        refine wpAny_take (i := 15) (v := .bool true) rfl (by kernel_rfl) (by kernel_rfl) (by kernel_rfl) (fun _ _ _ h => h) (Or.inl ⟨by simp [Region.wanted], ?_⟩) ?_
        · intro w; go_simp
        refine wpAny_done (by kernel_rfl) ?_ _
        have gg10 := bstep gg9 g10
        have hbI10 := bx_below hbI9 g10
        have hbO10 := bx_below hbO9 g10
        have hR10 : RK enF 5 w10 ai ni ci ins := (hR7.below g79).below g10
        have oka := (ok7.below (g79.trans (g10.mono g79.size)))
        have hla := kyL_len HG.out.nd (List.mem_of_getElem? HQ.out)
        have hlb := (kyL_perm (ko := kF qo) hpm).length_eq
        have hmb : ∀ k, k ∈ kyL (kF qo) f2 ↔ k ∈ kyL (kF qo) ins := fun k => (kyL_perm hpm).mem_iff
        have hab : ks = kb := rise_same ks kb srt7 srtb (fun k => (all7 k).symm.trans ((hmb k).symm.trans (allb k)))
        have hkn : kF qo ∉ ks := fun h => kyL_not _ _ ((all7 _).2 h)
        subst hab
        rw [hlb] at okb
        rw [hlb]
        clear hlb hmb allb all7 srtb hbI7 hbO7 hbI9 hbO9 hO7 hR7 ok7
        generalize hna : (kyL (kF qo) ins).length = na at *
        have hsb : IntKind.i64.wrap ((ni : Int) - 1) = (na : Int) := by rw [IntWalk.i64_in _ (by omega)]; omega
        have q10 : w10.cell? ⟨w.heap.size, 0, none⟩ = some (.slice ai ni ci) := by rw [cell_of_row w10 w.heap.size 0 _ _ _ hbI10]; rfl
        go_wp2
        generalize wr.heap.size = bO at *
        go_loopg [108] na (fun gn vi wr => ∃ i : Nat, i ≤ na ∧ gn = na - i ∧ vi = .int .i64 (i : Int) ∧ Below w10.heap.size w10 wr)
        case atStart => exact ⟨0, by omega, by omega, rfl, Below.refl _ _⟩
        case round =>
          obtain ⟨i, hi, rfl, rfl, gr⟩ := hrel
          by_cases hil2 : i < na
          · obtain ⟨v, hv⟩ : ∃ v, ks[i]? = some v := ⟨_, List.getElem?_eq_getElem (by rw [oka.len]; exact hil2)⟩
            obtain ⟨ga, oa, rfl, hga, hca⟩ := (oka.rl.below gr).cell (by omega)
            obtain ⟨gb, ob, rfl, hgb, hcb⟩ := (okb.rl.below gr).cell (by omega)
            obtain ⟨gi, oi, hai, hgi, hri⟩ := (hR10.below gr).range HQ.out
            have hvk : v ≠ kF qo := fun e => hkn (e ▸ List.mem_of_getElem? hv)
            have xa : ∀ d os, (grow (redrawn wr d) os).cell? ⟨ga, oa + i, none⟩ = some (.int .u32 (v : Int)) := cell_regrown (hca i v hv)
            have xb : ∀ d os, (grow (redrawn wr d) os).cell? ⟨gb, ob + i, none⟩ = some (.int .u32 (v : Int)) := cell_regrown (hcb i v hv)
            have qI0 : wr.cell? ⟨w.heap.size, 0, none⟩ = some (.slice ai ni ci) := by rw [cell_of_row wr w.heap.size 0 _ _ _ (bx_below hbI10 gr)]; rfl
            have qO0 : wr.cell? ⟨bO, 0, none⟩ = some (.int .i64 (oq : Int)) := by rw [cell_of_row wr bO 0 _ _ _ (bx_below hbO10 gr)]; rfl
            rw [hai] at qI0
            have qI := cell_regrown qI0
            have qO := cell_regrown qO0
            obtain ⟨y0, y1, y2, y3, y4⟩ := rg5r hri
            have kB := fun d os => Calls.regrown_of (key_any (grow (redrawn wr d) os) qo.1.id qo.1.ext qo.1.rem qo.1.dlc qo.2.1 qo.1.data.length qo.2.2 hqi)
            have HKB : Hid (keyF qo.1.id qo.1.ext qo.1.rem = kF qo) := rfl
            rw [HKB.out] at kB
            have f3 : (oq : Int) < (ni : Int) := by omega
            have f4 : (i : Int) < (na : Int) := by omega
            have he : ((v : Int) == (kF qo : Int)) = false := by rw [beq_eq_false_iff_ne]; omega
            by_cases hi0 : i = 0
            · have f0 : ¬ (0 : Int) < (i : Int) := by omega
              have f0' : ¬ 0 < i := by omega
              clear hi0
              clear hai hri hca hcb qI0 qO0 q10
              go_wp2
              refine wp_region_quiet_below (by kernel_rfl) (by kernel_rfl) ?_
              repeat (go_big_quiet_step (first | (go_at_call 19; with_reducible exact kB _ _)))
              refine wpQuiet_nil ?_
              intro w11 hw11
              have g11 : Below wr.heap.size wr w11 := by obtain ⟨p11, rfl⟩ := hw11; exact below_regrown _ _ _
              clear hw11 kB
              go_wp2
              go_roundg (na - (i + 1))
              case measure => omega
              case rel => exact ⟨i + 1, by omega, rfl, by go_num, bstep gr g11⟩
            · obtain ⟨j, hj⟩ : ∃ j, i = j + 1 := ⟨i - 1, by omega⟩
              obtain ⟨u, hu⟩ : ∃ u, ks[j]? = some u := ⟨_, List.getElem?_eq_getElem (by rw [oka.len]; omega)⟩
              have huv : u < v := by
                obtain ⟨h1, e1⟩ := List.getElem?_eq_some_iff.1 hu
                obtain ⟨h2, e2⟩ := List.getElem?_eq_some_iff.1 hv
                rw [← e1, ← e2]
                exact List.pairwise_iff_getElem.1 srt7 j i h1 h2 (by omega)
              have xp : ∀ d os, (grow (redrawn wr d) os).cell? ⟨ga, oa + j, none⟩ = some (.int .u32 (u : Int)) := cell_regrown (hca j u hu)
              have f0 : (0 : Int) < (i : Int) := by omega
              have f5 : (j : Int) < (na : Int) := by omega
              have i1 : IntKind.i64.wrap ((i : Int) - 1) = (j : Int) := by rw [IntWalk.i64_in _ (by omega)]; omega
              have fge : ¬ (v : Int) ≤ (u : Int) := by omega
              have f0' : 0 < i := by omega
              have fge' : ¬ v ≤ u := by omega
              clear hi0 hj
              clear hai hri hca hcb qI0 qO0 q10
              go_wp2
              refine wp_region_quiet_below (by kernel_rfl) (by kernel_rfl) ?_
              repeat (go_big_quiet_step (first | (go_at_call 19; with_reducible exact kB _ _)))
              refine wpQuiet_nil ?_
              intro w11 hw11
              have g11 : Below wr.heap.size wr w11 := by obtain ⟨p11, rfl⟩ := hw11; exact below_regrown _ _ _
              clear hw11 kB
              go_wp2
              go_roundg (na - (i + 1))
              case measure => omega
              case rel => exact ⟨i + 1, by omega, rfl, by go_num, bstep gr g11⟩
          · obtain rfl : i = na := by omega
            go_wp2_with (first
              | (go_at_call 10; (with_reducible refine (awake10_any wr).mono ?_); rintro e w12 ⟨rfl, g12⟩))
            go_ret
            exact ⟨rfl, bstep (bstep gg10 gr) g12⟩
end Go.Proofs.Ytjekkjmjiljaeaa
