/-
  Contract of fields at an extended head.
-/
import Derived.Test.YthpgcgkgokfnpaaB4k
import Derived.Deep.RegionLaw
import Derived.Deep.CutRange
import Derived.Deep.DeepCutAuto
namespace Go.Proofs.Ythpgcgkgokfnpaa
open Go.RowKit Go.Sort
set_option linter.unusedVariables false

set_option maxHeartbeats 4000000 in
theorem fields_ext (w0 w : World) (g : Nat) (l : List Bool) (hg : w0.heap.size ≤ g) (hgw : g < w.heap.size) (hb : Below w0.heap.size w0 w) (hr : Rw w0 w g l) (hm : 39 ≤ l.length) (h13 : l[13]? = some true) :
    Calls Try.prog 50 #[.func (.func 49) #[.pointer (some ⟨g, 0, none⟩)] #[]] w fun e w' => e = .returned (.agg #[.int .u32 (numL ((l.drop 1).take 11) * 262144 + numL ((l.drop 14).take 18) : Nat), .bool true, .bool (l[32]?.getD false), .int .u8 (numL ((l.drop 35).take 4) : Int), .slice none 0 0]) ∧ Rw w0 w' g (l.drop 39) ∧ w.grownBy w' (some g) := by
  have fs1 : Fs w0 w (w.alloc (.cells #[.int .u32 0, .bool false, .bool false, .int .u8 0, .slice none 0 0] 36)) g l :=
    ⟨hr.grown (Below.heap_alloc _ _ _ hgw), hb.alloc hb.size _, ⟨rfl, rfl, rfl, by simp, fun k hk _ => Below.heap_alloc _ _ _ hk⟩, heap_alloc_new w _⟩
  obtain ⟨up, hup⟩ : ∃ up, up = numL ((l.drop 1).take 11) := ⟨_, rfl⟩
  obtain ⟨lo, hlo⟩ : ∃ lo, lo = numL ((l.drop 14).take 18) := ⟨_, rfl⟩
  obtain ⟨dl, hdl⟩ : ∃ dl, dl = numL ((l.drop 35).take 4) := ⟨_, rfl⟩
  obtain ⟨x0, hx0⟩ : ∃ x0, l[0]? = some x0 := ⟨l[0], by simp⟩
  obtain ⟨x12, hx12⟩ : ∃ x, l[12]? = some x := ⟨l[12], by simp⟩
  obtain ⟨x32, hx32⟩ : ∃ x, l[32]? = some x := ⟨l[32], by simp⟩
  obtain ⟨x33, hx33⟩ : ∃ x, l[33]? = some x := ⟨l[33], by simp⟩
  obtain ⟨x34, hx34⟩ : ∃ x, l[34]? = some x := ⟨l[34], by simp⟩
  have hup2 : up < 2048 := by rw [hup]; have := numL_lt ((l.drop 1).take 11); rw [List.length_take, List.length_drop] at this; exact Nat.lt_of_lt_of_le this (Nat.pow_le_pow_right (n := 2) (j := 11) (by decide) (by omega))
  have hlo2 : lo < 262144 := by rw [hlo]; have := numL_lt ((l.drop 14).take 18); rw [List.length_take, List.length_drop] at this; exact Nat.lt_of_lt_of_le this (Nat.pow_le_pow_right (n := 2) (j := 18) (by decide) (by omega))
  have hdl2 : dl < 16 := by rw [hdl]; have := numL_lt ((l.drop 35).take 4); rw [List.length_take, List.length_drop] at this; exact Nat.lt_of_lt_of_le this (Nat.pow_le_pow_right (n := 2) (j := 4) (by decide) (by omega))
  obtain ⟨v0, hv0⟩ : ∃ v0, v0 = x0.toNat := ⟨_, rfl⟩
  obtain ⟨v12, hv12⟩ : ∃ v12, v12 = x12.toNat := ⟨_, rfl⟩
  obtain ⟨v32, hv32⟩ : ∃ v32, v32 = x32.toNat := ⟨_, rfl⟩
  obtain ⟨v33, hv33⟩ : ∃ v33, v33 = x33.toNat := ⟨_, rfl⟩
  obtain ⟨v34, hv34⟩ : ∃ v34, v34 = x34.toNat := ⟨_, rfl⟩
  have n1 : v0 = numL (l.take 1) % 4294967296 := hv0.trans (num1 hx0).symm
  have n2 : up = numL ((l.drop 1).take 11) % 4294967296 := by rw [hup] at hup2 ⊢; omega
  have n3 : v12 = numL ((l.drop 12).take 1) % 4294967296 := hv12.trans (num1 (by rw [List.getElem?_drop]; exact hx12)).symm
  have n4 : 1 = numL ((l.drop 13).take 1) % 4294967296 := (num1 (x := true) (by rw [List.getElem?_drop]; exact h13)).symm
  have n5 : lo = numL ((l.drop 14).take 18) % 4294967296 := by rw [hlo] at hlo2 ⊢; omega
  have n6 : v32 = numL ((l.drop 32).take 1) % 4294967296 := hv32.trans (num1 (by rw [List.getElem?_drop]; exact hx32)).symm
  have n7 : v33 = numL ((l.drop 33).take 1) % 4294967296 := hv33.trans (num1 (by rw [List.getElem?_drop]; exact hx33)).symm
  have n8 : v34 = numL ((l.drop 34).take 1) % 4294967296 := hv34.trans (num1 (by rw [List.getElem?_drop]; exact hx34)).symm
  have n9 : dl = numL ((l.drop 35).take 4) % 4294967296 := by rw [hdl] at hdl2 ⊢; omega
  have k1 := fun wc (fs : Fs w0 w wc g l) => fs.call hg hgw 1 1 v0 (l.drop 1) rfl (by omega) n1 rfl
  have k2 := fun wc (fs : Fs w0 w wc g (l.drop 1)) => fs.call hg hgw 11 11 up (l.drop 12) rfl (by simp; omega) n2 (by rw [List.drop_drop])
  have k3 := fun wc q vs (fs : Fq w0 w wc g (l.drop 12) q vs) => fs.call hg hgw 1 1 v12 (l.drop 13) rfl (by simp; omega) n3 (by rw [List.drop_drop])
  have k4 := fun wc q vs (fs : Fq w0 w wc g (l.drop 13) q vs) => fs.call hg hgw 1 1 1 (l.drop 14) rfl (by simp; omega) n4 (by rw [List.drop_drop])
  have k5 := fun wc q vs (fs : Fq w0 w wc g (l.drop 14) q vs) => fs.call hg hgw 18 18 lo (l.drop 32) rfl (by simp; omega) n5 (by rw [List.drop_drop])
  have k6 := fun wc q vs (fs : Fq w0 w wc g (l.drop 32) q vs) => fs.call hg hgw 1 1 v32 (l.drop 33) rfl (by simp; omega) n6 (by rw [List.drop_drop])
  have k7 := fun wc q vs (fs : Fq w0 w wc g (l.drop 33) q vs) => fs.call hg hgw 1 1 v33 (l.drop 34) rfl (by simp; omega) n7 (by rw [List.drop_drop])
  have k8 := fun wc q vs (fs : Fq w0 w wc g (l.drop 34) q vs) => fs.call hg hgw 1 1 v34 (l.drop 35) rfl (by simp; omega) n8 (by rw [List.drop_drop])
  have k9 := fun wc q vs (fs : Fq w0 w wc g (l.drop 35) q vs) => fs.call hg hgw 4 4 dl (l.drop 39) rfl (by simp; omega) n9 (by rw [List.drop_drop])
  rw [← hup, ← hlo, ← hdl, hx32]
  have e12 : ((v12 : Int) == 1) = x12 := by rw [hv12]; cases x12 <;> rfl
  have e32 : ((v32 : Int) == 1) = x32 := by rw [hv32]; cases x32 <;> rfl
  have w12 : v12 < 2 := by rw [hv12]; cases x12 <;> decide
  have w32 : v32 < 2 := by rw [hv32]; cases x32 <;> decide
  clear hv0 hv12 hv32 hv33 hv34 hup hlo hdl hx0 hx12 hx32 hx33 hx34 n1 n2 n3 n4 n5 n6 n7 n8 n9 h13 hr hb
  simp only [Option.getD_some]
  obtain ⟨id, hid0⟩ : ∃ id, id = up * 262144 + lo := ⟨_, rfl⟩
  rw [← hid0]
  have hor : bits .or .u32 ((up * 262144 : Nat) : Int) (lo : Int) = (id : Int) := by
    rw [(u32_bits (up * 262144) lo (by omega) (by omega)).2, hid0]
    rw [show up * 262144 = 2 ^ 18 * up from by omega, ← Nat.two_pow_add_eq_or_of_lt hlo2]
  have hid2 : id < 4294967296 := by omega
  obtain ⟨us, hus⟩ : ∃ us, us = up * 262144 := ⟨_, rfl⟩
  have hsh : Op.shift .shl .u32 (up : Int) .u64 18 = pure (.int .u32 (us : Int)) := by
    have h1 := shift_shl_u32 (x := (up : Int)) (y := 18) (yk := .u64) (by omega) (by omega)
    rw [h1, hus]
    have h2 : (up : Int) * 2 ^ (18 : Int).toNat = ((up * 262144 : Nat) : Int) := by norm_cast
    rw [h2, IntWalk.u32_in ((up * 262144 : Nat) : Int) (by omega)]
  rw [← hus] at hor
  clear hid0 hus
  go_enter Try.func50, Try.ntmps50
  go_wp2_with (first
    | (go_at_call 49; (with_reducible refine (k1 _ fs1).mono ?_); rintro e w2 ⟨rfl, fs2, -⟩)
    | (go_at_call 49; (with_reducible refine (k2 w2 fs2).mono ?_); rintro e w3 ⟨rfl, fs3, -⟩; have fq3 := Fq.new fs3 hgw #[.int .u32 (up : Int), .bool false, .bool false, .int .u8 0, .slice none 0 0]; clear fs1 fs2)
    | (go_at_call 49; (with_reducible refine (k3 _ _ _ fq3).mono ?_); rintro e w4 ⟨rfl, fq4⟩; have f4 := bx_thaw fq4.b3 2; have p4 := (bx5 fq4.b3).2.2.1; have fq4' := fq4.set2 hgw hg (.bool x12))
    | (go_at_call 49; (with_reducible refine (k4 _ _ _ fq4').mono ?_); rintro e w5 ⟨rfl, fq5⟩; have f5 := bx_thaw fq5.b3 1; have p5 := (bx5 fq5.b3).2.1; clear f4 p4; have fq5' := fq5.set1 hgw hg (.bool true)))
  have hb5 : Below w0.heap.size w0 (w5.setCell ⟨w3.heap.size, 1, none⟩ (.bool true)).drew := fq5'.fs.bel.drew
  have fq5d : Fq w0 w (w5.setCell ⟨w3.heap.size, 1, none⟩ (.bool true)).drew g (l.drop 14) w3.heap.size #[.int .u32 (up : Int), .bool true, .bool x12, .int .u8 0, .slice none 0 0] := ⟨⟨fq5'.fs.row, fq5'.fs.bel.drew, grow_trans fq5'.fs.gr ⟨rfl, rfl, rfl, Nat.le_refl _, fun _ _ _ => rfl⟩, fq5'.fs.b2⟩, fq5'.b3, fq5'.hq⟩
  obtain ⟨c0, c1, c2, c3, c4⟩ := bx5 fq5'.b3
  clear p5 f5
  go_cut [19] (fun s19 wx => ∃ w6, Fq w0 w w6 g (l.drop 32) w3.heap.size #[.int .u32 (up : Int), .bool true, .bool x12, .int .u8 0, .slice none 0 0] ∧ wx = w6.setCell ⟨w3.heap.size, 0, none⟩ (.int .u32 (id : Int)))
  case first =>
    have k5' := k5 _ _ _ fq5d
    clear k1 k2 k3 k4 k5 k6 k7 k8 k9 fq3 fq4 fq4' fq5
    go_region_law
      (first
        | (go_simp; go_at_call 49; (with_reducible refine Calls.mono k5' ?_); rintro e w6 ⟨rfl, fq6⟩; have p6 := (bx5 fq6.b3).1; have f6 := bx_thaw fq6.b3 0))
    all_goals
      go_wp2_with fail
      go_meet
      exact ⟨w6, fq6, rfl⟩
  case rest =>
    obtain ⟨w6, fq6, rfl⟩ := hcut
    have fq6' := fq6.set0 hgw hg (.int .u32 (id : Int))
    clear fq3 fq4 fq4' fq5 fq5' fq5d c0 c1 c2 c3 c4 k1 k2 k3 k4 k5
    go_wp2_with (first
      | (go_at_call 49; (with_reducible refine (k6 _ _ _ fq6').mono ?_); rintro e w7 ⟨rfl, fq7⟩; have f7 := bx_thaw fq7.b3 2; have p7 := (bx5 fq7.b3).2.2.1; have fq7' := fq7.set2 hgw hg (.bool x32))
      | (go_at_call 49; (with_reducible refine (k7 _ _ _ fq7').mono ?_); rintro e w8 ⟨rfl, fq8⟩)
      | (go_at_call 49; (with_reducible refine (k8 _ _ _ fq8).mono ?_); rintro e w9 ⟨rfl, fq9⟩)
      | (go_at_call 49; (with_reducible refine (k9 _ _ _ fq9).mono ?_); rintro e w10 ⟨rfl, fq10⟩; clear f7 p7; have f7 := bx_thaw fq10.b3 3; obtain ⟨c0, c1, c2, c3, c4⟩ := bx5 fq10.b3; have f8 := bx_thaw fq10.fs.b2; obtain ⟨d0, d1, d2, d3, d4⟩ := bx5 fq10.fs.b2; have hq10 := fq10.hq))
    have fin := (fq10.set3 hgw hg (.int .u8 (dl : Int))).fs.fin hgw (.int .u32 (id : Int)) (.bool true) (.bool x32) (.int .u8 (dl : Int)) (.slice none 0 0)
    exact bodyPost_ret (v := .agg #[.int .u32 (id : Int), .bool true, .bool x32, .int .u8 (dl : Int), .slice none 0 0]) (by simp [results, Try.results50, go_sem, d0, d1, d2, d3, d4]) rfl ⟨rfl, fin.1, fin.2⟩
end Go.Proofs.Ythpgcgkgokfnpaa
