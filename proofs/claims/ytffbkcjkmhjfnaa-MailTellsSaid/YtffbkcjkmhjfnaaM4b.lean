/-
  Contract of the document's Before.
  A row of bits that is read from its beginning on: contract of take.
  Contract of fields: the frame of a head that is read by a method value.
  Contracts of Head (the program's).
  Contracts of the document's Read and Head.
  Contracts of Parse where the bits are no body (the program's and the document's).
  Contract of Parse where the bits have the form of a body (the program's).
  Contract of Parse at a body (the program's).
  Plain facts of frames and their bits.
  Plain facts of the arbitration.
-/
import Derived.Test.YtffbkcjkmhjfnaaB4g
import Derived.Test.YtffbkcjkmhjfnaaB4
import Derived.Deep.RegionLaw
import Derived.Deep.CutRange
import Derived.Deep.DeepCutAuto
import Derived.StillTailTactics
namespace Go.Proofs.Ytffbkcjkmhjfnaa
open Go.RowKit Go.Sort
set_option linter.unusedVariables false

theorem heL_con {id : Nat} {ext rem : Bool} {dlc k : Nat} {x : Bool} (hk : k < (conL id ext rem).length) (h : (heL id ext rem dlc)[k]? = some x) : (conL id ext rem)[k]? = some x := by
  unfold heL at h
  rw [List.append_assoc, List.append_assoc, List.getElem?_append_left hk] at h
  exact h

end Go.Proofs.Ytffbkcjkmhjfnaa

namespace Go.Proofs.Ytffbkcjkmhjfnaa
open Go.RowKit Go.Sort
set_option linter.unusedVariables false

theorem one_bx' {w : World} {g : Nat} {E : TypeId} {v0 : Value} (h : w.heap[g]? = some (.cells #[v0] E (0, 0))) : w.cell? ⟨g, 0, none⟩ = some v0 ∧ w.frozen? ⟨g, 0, none⟩ = false :=
  ⟨by rw [cell_of_row w g 0 _ _ _ h]; rfl, frozen_of_row w g 0 _ _ h⟩

end Go.Proofs.Ytffbkcjkmhjfnaa

namespace Go.Proofs.Ytffbkcjkmhjfnaa
open Go.RowKit Go.Sort
set_option linter.unusedVariables false

def zeroF : Array Value := #[.int .u32 0, .bool false, .bool false, .int .u8 0, .slice none 0 0]

theorem grow_trans {w w1 w2 : World} {o : Option Nat} (h : w.grownBy w1 o) (h2 : w1.grownBy w2 o) : w.grownBy w2 o :=
  ⟨h2.os.trans h.os, h2.tape.trans h.tape, h2.output.trans h.output, Nat.le_trans h.size h2.size, fun q h1 hn => (h2.block q (Nat.lt_of_lt_of_le h1 h.size) hn).trans (h.block q h1 hn)⟩

theorem grow_box {w w' : World} {g q : Nat} {o : Obj} (h : w.grownBy w' (some g)) (hb : w.heap[q]? = some o) (hq : q ≠ g) : w'.heap[q]? = some o := by
  rw [h.block q (bx_lt hb) (by simpa using hq)]; exact hb

section
variable {w0 w wc w' : World} {g q : Nat} {l l' : List Bool}
end

theorem num1 {l : List Bool} {x : Bool} (h : l[0]? = some x) : numL (l.take 1) % 4294967296 = x.toNat := by
  cases l with
  | nil => cases h
  | cons y l => simp at h; subst h; cases y <;> rfl

end Go.Proofs.Ytffbkcjkmhjfnaa

namespace Go.Proofs.Ytffbkcjkmhjfnaa
open Go.RowKit Go.Sort
set_option linter.unusedVariables false

/-- The frame, without data, of a head. -/
def reF (l : List Bool) : Fr :=
  if l[13]?.getD false then ⟨numL ((l.drop 1).take 11) * 262144 + numL ((l.drop 14).take 18), true, l[32]?.getD false, numL ((l.drop 35).take 4), []⟩
  else ⟨numL ((l.drop 1).take 11), false, l[12]?.getD false, numL ((l.drop 15).take 4), []⟩

/-- How many bits its head has. -/
def heM (l : List Bool) : Nat := if l[13]?.getD false then 39 else 19
/-- Whether the head is there. -/
def hdK (l : List Bool) : Bool := decide (19 ≤ l.length) && (!(l[13]?.getD false) || decide (39 ≤ l.length))
/-- How many bits its body has. -/
def hdN (l : List Bool) : Nat := heM l + 8 * lonF (reF l).rem (reF l).dlc + 15

theorem lonF_le (rem : Bool) (dlc : Nat) : lonF rem dlc ≤ 8 := by unfold lonF; split <;> omega
theorem numL_take_lt (l : List Bool) (k : Nat) : numL (l.take k) < 2 ^ k := Nat.lt_of_lt_of_le (numL_lt _) (Nat.pow_le_pow_right (n := 2) (by decide) (by rw [List.length_take]; omega))
theorem reF_lt (l : List Bool) : (reF l).id < 4294967296 ∧ (reF l).dlc < 16 := by
  have h1 := numL_take_lt (l.drop 1) 11
  have h2 := numL_take_lt (l.drop 14) 18
  have h3 := numL_take_lt (l.drop 35) 4
  have h4 := numL_take_lt (l.drop 15) 4
  unfold reF; split <;> constructor <;> dsimp only <;> omega

end Go.Proofs.Ytffbkcjkmhjfnaa

namespace Go.Proofs.Ytffbkcjkmhjfnaa
open Go.RowKit Go.Sort
set_option linter.unusedVariables false

theorem run_cut {α : Type} {f : α → Value} {E T : TypeId} {z : Value} {bytes : Nat} {w : World} {P : Program} {l : List α} {n c : Nat} {a : Option Addr} (hT : ElT P T E z bytes) (hr : RL f w a n c l) (kl kh : IntKind) (L H : Int) (l0 h0 N : Nat) (hL : L = (l0 : Int)) (hH : H = (h0 : Int)) (hN : N = h0 - l0) (h1 : l0 ≤ h0) (h2 : h0 ≤ n) :
    ∃ a' c', (∀ w', (Instr.sliceAt T (.slice a n c) (some (.int kl L)) (some (.int kh H)) none).run P w' = .ok (.slice a' N c') w') ∧ (∀ w', (Instr.slice T (.slice a n c) (some (.int kl L)) (some (.int kh H)) none).run P w' = .ok (.slice a' N c') w') ∧ RL f w a' N c' ((l.drop l0).take N) := by
  subst hL
  subst hH
  subst hN
  obtain ⟨a', he, hr'⟩ := hr.sliced l0 h0 1 rfl h1 h2
  have hu : P.underlying T = some (.slice (P.elem T)) := by rw [hT.und, hT.el]
  have key : ∀ w', (Instr.slice T (.slice a n c) (some (.int kl (l0 : Int))) (some (.int kh (h0 : Int))) none).run P w' = .ok (.slice a' (h0 - l0) (c - l0)) w' := fun w' => by
    have hrun := run_slice_lh (P := P) w' T a n c hu kl kh l0 h0 (by omega) (by omega) (by have := hr.cap; omega)
    simp only [Int.toNat_natCast, run_sizeOf_el hT, Result.andThen] at hrun
    rw [hrun, he]
  exact ⟨a', c - l0, fun w' => by rw [run_sliceAt_slice w' T _ _ _ _ hu]; exact key w', key, by rw [List.drop_take] at hr'; exact hr'⟩

/-- A number of few bits. -/
theorem num_small {l : List Bool} {k v : Nat} (hv : v = numL (l.take k)) (hk : k ≤ 32) : v = numL (l.take k) % 4294967296 := by
  have h := numL_take_lt l k
  have := Nat.lt_of_lt_of_le h (Nat.pow_le_pow_right (n := 2) (j := 32) (by decide) hk)
  rw [hv, Nat.mod_eq_of_lt this]

theorem below_five {w w1 : World} (h : Below w.heap.size w w1) (v0 v1 v2 v3 v4 : Value) : Below w.heap.size w (((((w1.setCell ⟨w.heap.size, 0, none⟩ v0).setCell ⟨w.heap.size, 1, none⟩ v1).setCell ⟨w.heap.size, 2, none⟩ v2).setCell ⟨w.heap.size, 3, none⟩ v3).setCell ⟨w.heap.size, 4, none⟩ v4) :=
  ((((h.setCell (by simp) _).setCell (by simp) _).setCell (by simp) _).setCell (by simp) _).setCell (by simp) _

end Go.Proofs.Ytffbkcjkmhjfnaa

namespace Go.Proofs.Ytffbkcjkmhjfnaa
open Go.RowKit Go.Sort
set_option linter.unusedVariables false

/-- Whether the bits have the form of a body. -/
def paK (l : List Bool) : Bool := hdK l && !(l[0]?.getD false) && decide (l.length = hdN l)

theorem zero_new (w : World) : ∃ w1, Hid (w.alloc (.cells #[.int .u32 0, .bool false, .bool false, .int .u8 0, .slice none 0 0] 34) = w1) ∧ w1.heap[w.heap.size]? = some (.cells #[.int .u32 0, .bool false, .bool false, .int .u8 0, .slice none 0 0] 34 (0, 0)) ∧ Below w.heap.size w w1 := ⟨_, rfl, heap_alloc_new w _, bnew0 w _⟩

theorem hdN_le (l : List Bool) : 34 ≤ hdN l ∧ hdN l ≤ 118 := by
  have := lonF_le (reF l).rem (reF l).dlc
  unfold hdN heM; split <;> omega

end Go.Proofs.Ytffbkcjkmhjfnaa

namespace Go.Proofs.Ytffbkcjkmhjfnaa
open Go.RowKit Go.Sort
set_option linter.unusedVariables false

/-- The data that the bits of a body say. -/
def paD (l : List Bool) : List UInt8 := byL ((l.drop (heM l)).take (8 * lonF (reF l).rem (reF l).dlc))

theorem foV_tail (s : BitVec 15) (d : List Bool) (hd : d.length = 15) : foV s d = 0#15 ↔ d = biV s := by
  have hb : (biV s).length = 15 := biV_length s
  have hx : xoL (biV s) (xoL (biV s) d) = d := by
    apply List.ext_getElem?
    intro i
    unfold xoL
    rw [List.getElem?_zipWith, List.getElem?_zipWith]
    by_cases hi : i < 15
    · obtain ⟨x, e1⟩ : ∃ x, (biV s)[i]? = some x := ⟨_, List.getElem?_eq_getElem (by omega)⟩
      obtain ⟨y, e2⟩ : ∃ y, d[i]? = some y := ⟨_, List.getElem?_eq_getElem (by omega)⟩
      rw [e1, e2]
      cases x <;> cases y <;> rfl
    · rw [List.getElem?_eq_none (by omega : d.length ≤ i), List.getElem?_eq_none (by omega : (biV s).length ≤ i)]
  have hl : (xoL (biV s) d).length = 15 := by unfold xoL; rw [List.length_zipWith]; omega
  have h := foV_xor (biV s) (xoL (biV s) d) s 0#15 (by omega)
  rw [hx, foV_own, BitVec.xor_zero, BitVec.zero_xor] at h
  rw [h]
  constructor
  · intro h0
    by_cases ht : true ∈ xoL (biV s) d
    · exact absurd h0 (suV_burst (by omega) ht)
    · apply List.ext_getElem?
      intro i
      by_cases hi : i < 15
      · obtain ⟨x, e1⟩ : ∃ x, (biV s)[i]? = some x := ⟨_, List.getElem?_eq_getElem (by omega)⟩
        obtain ⟨y, e2⟩ : ∃ y, d[i]? = some y := ⟨_, List.getElem?_eq_getElem (by omega)⟩
        have e3 := xoL_get e1 e2
        rw [e1, e2]
        have e4 : (x != y) = false := by
          cases hq : (x != y)
          · rfl
          · rw [hq] at e3; exact absurd (List.mem_of_getElem? e3) ht
        congr 1
        revert e4
        cases x <;> cases y <;> simp
      · rw [List.getElem?_eq_none (by omega : d.length ≤ i), List.getElem?_eq_none (by omega : (biV s).length ≤ i)]
  · intro e
    rw [← h, e, foV_own]

theorem sum_tail {l : List Bool} {E : Nat} (h : l.length = E + 15) : suV l = 0#15 ↔ numL (l.drop E) % 4294967296 = (suV (l.take E)).toNat := by
  have hd : (l.drop E).length = 15 := by rw [List.length_drop]; omega
  have hl : suV l = foV (suV (l.take E)) (l.drop E) := by rw [← suV_append, List.take_append_drop]
  have hn : numL (l.drop E) % 4294967296 = numL (l.drop E) := by
    have := numL_lt (l.drop E); rw [hd] at this; exact Nat.mod_eq_of_lt (by omega)
  rw [hl, foV_tail _ _ hd, hn]
  constructor
  · intro e; rw [e, numL_biV]
  · intro e
    have h1 := ofL_numL (l.drop E)
    rw [hd, e] at h1
    exact h1.symm

theorem paK_parts {l : List Bool} (h : paK l = true) : hdK l = true ∧ l[0]? = some false ∧ l.length = hdN l := by
  unfold paK at h
  simp only [Bool.and_eq_true, decide_eq_true_eq, Bool.not_eq_true'] at h
  obtain ⟨⟨h1, h2⟩, h3⟩ := h
  have := hdN_le l
  obtain ⟨x, hx⟩ : ∃ x, l[0]? = some x := ⟨l[0], by simp⟩
  rw [hx] at h2 ⊢
  simp at h2
  exact ⟨h1, by rw [h2], h3⟩

end Go.Proofs.Ytffbkcjkmhjfnaa

namespace Go.Proofs.Ytffbkcjkmhjfnaa
open Go.RowKit Go.Sort
set_option linter.unusedVariables false

section
variable {w wr w' : World} {g q : Nat} {l l' : List Bool} {v0 v1 v2 v3 : Value} {a a' : Option Addr} {k c k' c' : Nat} {out out' : List UInt8}
end

/-- One byte more of what is read. -/
theorem byL_chunk {l : List Bool} {M k L : Nat} (hk : k < L) (hl : M + 8 * L ≤ l.length) : (byL ((l.drop M).take (8 * L))).take (k + 1) = (byL ((l.drop M).take (8 * L))).take k ++ [UInt8.ofNat (numL ((l.drop (M + 8 * k)).take 8) % 4294967296)] := by
  have hlen : ((l.drop M).take (8 * L)).length = 8 * L := by rw [List.length_take, List.length_drop]; omega
  have h := byL_get ((l.drop M).take (8 * L)) k (by rw [hlen]; omega)
  have hn : numL ((l.drop (M + 8 * k)).take 8) % 4294967296 = numL ((l.drop (M + 8 * k)).take 8) := by
    have := numL_take_lt (l.drop (M + 8 * k)) 8
    exact Nat.mod_eq_of_lt (by omega)
  rw [take_snoc h, hn]
  congr 3
  rw [List.drop_take, List.drop_drop, List.take_take, Nat.min_eq_left (by omega)]

theorem byL_done {l : List Bool} {M L : Nat} (hl : M + 8 * L ≤ l.length) : (byL ((l.drop M).take (8 * L))).length = L := by
  rw [byL_length, List.length_take, List.length_drop]; omega

theorem lit1V (w : World) (v : Nat) (hv : v < 256) : RL bv (w.alloc (.cells #[.int .u8 (v : Int)] 5)) (some ⟨w.heap.size, 0, none⟩) 1 1 [UInt8.ofNat v] := by
  have h := ol_lit bv 5 w.heap.size w [UInt8.ofNat v] #[bv (UInt8.ofNat v)] 1 rfl rfl (by omega) (Nat.le_refl _)
  have e : bv (UInt8.ofNat v) = .int .u8 (v : Int) := by
    show Value.int .u8 ((UInt8.ofNat v).toNat : Int) = _
    rw [UInt8.toNat_ofNat_of_lt' (by simpa using hv)]
  rw [e] at h
  exact h.rl

end Go.Proofs.Ytffbkcjkmhjfnaa

namespace Go.Proofs.Ytffbkcjkmhjfnaa
open Go.RowKit Go.Sort
set_option linter.unusedVariables false

theorem mid {p m s : List Bool} {i j : Nat} (hp : p.length = i) (hm : m.length = j) : ((p ++ (m ++ s)).drop i).take j = m := by
  rw [← hp, List.drop_left, ← hm, List.take_left]
theorem att {p s : List Bool} {x : Bool} {i : Nat} (hp : p.length = i) : (p ++ x :: s)[i]? = some x := by
  rw [← hp, List.getElem?_append_right (Nat.le_refl _), Nat.sub_self]; rfl

theorem he_13 (id : Nat) (ext rem : Bool) (dlc : Nat) (r : List Bool) : (heL id ext rem dlc ++ r)[13]? = some ext ∧ (heL id ext rem dlc ++ r)[0]? = some false := by
  cases ext
  · have e : heL id false rem dlc ++ r = ([false] ++ ofL id 11 ++ [rem]) ++ false :: ([false] ++ ofL dlc 4 ++ r) := by simp [heL, conL]
    exact ⟨by rw [e]; exact att (by simp), by rw [e]; rfl⟩
  · have e : heL id true rem dlc ++ r = ([false] ++ ofL (id / 262144) 11 ++ [true]) ++ true :: (ofL id 18 ++ [rem] ++ [false, false] ++ ofL dlc 4 ++ r) := by simp [heL, conL]
    exact ⟨by rw [e]; exact att (by simp), by rw [e]; rfl⟩

theorem he_reF {id : Nat} {ext rem : Bool} {dlc : Nat} (r : List Bool) (hi : id ≤ if ext then 536870911 else 2047) (hd : dlc ≤ 15) : reF (heL id ext rem dlc ++ r) = ⟨id, ext, rem, dlc, []⟩ := by
  unfold reF
  rw [(he_13 id ext rem dlc r).1]
  cases ext
  · simp only [Bool.false_eq_true, if_false] at hi
    have e1 : heL id false rem dlc ++ r = [false] ++ (ofL id 11 ++ ([rem, false, false] ++ ofL dlc 4 ++ r)) := by simp [heL, conL]
    have e2 : heL id false rem dlc ++ r = ([false] ++ ofL id 11) ++ rem :: ([false, false] ++ ofL dlc 4 ++ r) := by simp [heL, conL]
    have e3 : heL id false rem dlc ++ r = ([false] ++ ofL id 11 ++ [rem, false, false]) ++ (ofL dlc 4 ++ r) := by simp [heL, conL]
    have h1 : ((heL id false rem dlc ++ r).drop 1).take 11 = ofL id 11 := by rw [e1]; exact mid (by simp) (by simp)
    have h2 : (heL id false rem dlc ++ r)[12]? = some rem := by rw [e2]; exact att (by simp)
    have h3 : ((heL id false rem dlc ++ r).drop 15).take 4 = ofL dlc 4 := by rw [e3]; exact mid (by simp) (by simp)
    rw [h1, h2, h3, numL_ofL, numL_ofL, Nat.mod_eq_of_lt (by omega), Nat.mod_eq_of_lt (by omega)]
    rfl
  · simp only [if_true] at hi
    have e1 : heL id true rem dlc ++ r = [false] ++ (ofL (id / 262144) 11 ++ ([true, true] ++ ofL id 18 ++ [rem, false, false] ++ ofL dlc 4 ++ r)) := by simp [heL, conL]
    have e2 : heL id true rem dlc ++ r = ([false] ++ ofL (id / 262144) 11 ++ [true, true] ++ ofL id 18) ++ rem :: ([false, false] ++ ofL dlc 4 ++ r) := by simp [heL, conL]
    have e3 : heL id true rem dlc ++ r = ([false] ++ ofL (id / 262144) 11 ++ [true, true] ++ ofL id 18 ++ [rem, false, false]) ++ (ofL dlc 4 ++ r) := by simp [heL, conL]
    have e4 : heL id true rem dlc ++ r = ([false] ++ ofL (id / 262144) 11 ++ [true, true]) ++ (ofL id 18 ++ ([rem, false, false] ++ ofL dlc 4 ++ r)) := by simp [heL, conL]
    have h1 : ((heL id true rem dlc ++ r).drop 1).take 11 = ofL (id / 262144) 11 := by rw [e1]; exact mid (by simp) (by simp)
    have h2 : (heL id true rem dlc ++ r)[32]? = some rem := by rw [e2]; exact att (by simp)
    have h3 : ((heL id true rem dlc ++ r).drop 35).take 4 = ofL dlc 4 := by rw [e3]; exact mid (by simp) (by simp)
    have h4 : ((heL id true rem dlc ++ r).drop 14).take 18 = ofL id 18 := by rw [e4]; exact mid (by simp) (by simp)
    rw [h1, h2, h3, h4, numL_ofL, numL_ofL, numL_ofL, Nat.mod_eq_of_lt (by omega : dlc < 2 ^ 4), Nat.mod_eq_of_lt (by omega : id / 262144 < 2 ^ 11)]
    simp only [Option.getD_some, if_true, Fr.mk.injEq, and_true]
    omega

/-- What is asked of a right frame. -/
structure Good (f : Fr) : Prop where
  id : f.id ≤ if f.ext then 536870911 else 2047
  dlc : f.dlc ≤ 15
  len : f.data.length = lonF f.rem f.dlc

theorem good_iff (f : Fr) (n : Nat) (hn : f.data.length = n) : riF f.id f.ext f.rem f.dlc n = true ↔ Good f := by
  unfold riF
  simp only [Bool.and_eq_true, decide_eq_true_eq]
  exact ⟨fun ⟨⟨h1, h2⟩, h3⟩ => ⟨h1, h2, by rw [hn]; exact h3⟩, fun ⟨h1, h2, h3⟩ => ⟨⟨h1, h2⟩, by rw [← hn]; exact h3⟩⟩

theorem boL_split (f : Fr) : boL f = heL f.id f.ext f.rem f.dlc ++ (obL f.data ++ biV (suV (preL f))) := by unfold boL preL; rw [List.append_assoc]

theorem he_head (f : Fr) (h : Good f) (r : List Bool) : hdK (heL f.id f.ext f.rem f.dlc ++ r) = true ∧ heM (heL f.id f.ext f.rem f.dlc ++ r) = heN f.ext ∧ hdN (heL f.id f.ext f.rem f.dlc ++ r) = heN f.ext + 8 * lonF f.rem f.dlc + 15 := by
  have h13 := (he_13 f.id f.ext f.rem f.dlc r).1
  have hM : heM (heL f.id f.ext f.rem f.dlc ++ r) = heN f.ext := by unfold heM heN; rw [h13]; rfl
  refine ⟨?_, hM, by unfold hdN; rw [hM, he_reF r h.id h.dlc]⟩
  unfold hdK
  rw [h13, List.length_append, heL_length]
  cases f.ext <;> simp [heN] <;> omega

theorem bo_all (f : Fr) (h : Good f) : paK (boL f) = true ∧ suV (boL f) = 0#15 ∧ reF (boL f) = ⟨f.id, f.ext, f.rem, f.dlc, []⟩ ∧ paD (boL f) = f.data ∧ hdN (boL f) = (boL f).length := by
  obtain ⟨h1, h2, h3⟩ := he_head f h (obL f.data ++ biV (suV (preL f)))
  have h4 := he_reF (rem := f.rem) (obL f.data ++ biV (suV (preL f))) h.id h.dlc
  have h5 := (he_13 f.id f.ext f.rem f.dlc (obL f.data ++ biV (suV (preL f)))).2
  rw [← boL_split] at h1 h2 h3 h4 h5
  have hl : hdN (boL f) = (boL f).length := by rw [h3, boL_length, h.len]
  refine ⟨?_, ?_, h4, ?_, hl⟩
  · unfold paK
    rw [h1, h5, hl]; simp
  · unfold boL; exact suV_whole _
  · unfold paD
    rw [h2, h4]
    have e : ((boL f).drop (heN f.ext)).take (8 * lonF f.rem f.dlc) = obL f.data := by
      rw [boL_split]; exact mid (heL_length _ _ _ _) (by rw [obL_length, h.len])
    rw [e]
    have := byL_obL f.data [] (by decide)
    simpa using this

theorem bo_inj {f g : Fr} (hf : Good f) (hg : Good g) : boL f = boL g ↔ f = g := by
  refine ⟨fun e => ?_, fun e => by rw [e]⟩
  obtain ⟨_, _, h1, h2, _⟩ := bo_all f hf
  obtain ⟨_, _, h3, h4, _⟩ := bo_all g hg
  rw [e] at h1 h2
  rw [h1] at h3
  rw [h2] at h4
  cases f; cases g
  simp only [Fr.mk.injEq, and_true] at h3 h4 ⊢
  exact ⟨h3.1, h3.2.1, h3.2.2.1, h3.2.2.2, h4⟩

/-- What begins as a body tells its length as soon as the head is there. -/
theorem bo_take (f : Fr) (h : Good f) (i : Nat) (hi : i < heN f.ext) : hdK ((boL f).take i) = false := by
  have h13 := (he_13 f.id f.ext f.rem f.dlc (obL f.data ++ biV (suV (preL f)))).1
  rw [← boL_split] at h13
  unfold hdK
  rw [List.length_take, boL_length]
  by_cases h1 : i < 19
  · have : decide (19 ≤ min i (heN f.ext + 8 * f.data.length + 15)) = false := by simp; omega
    rw [this]; rfl
  · have hx : ((boL f).take i)[13]? = some f.ext := by rw [List.getElem?_take, if_pos (by omega)]; exact h13
    rw [hx]
    cases he : f.ext
    · rw [he] at hi; simp [heN] at hi; omega
    · rw [he] at hi; simp [heN] at hi ⊢; omega

theorem bo_from (f : Fr) (h : Good f) (more : List Bool) : (boL f).take (heN f.ext) ++ more = heL f.id f.ext f.rem f.dlc ++ more := by
  rw [boL_split, ← heL_length f.id f.ext f.rem f.dlc, List.take_left]

theorem hd_take {l : List Bool} {k : Nat} (hk : k ≤ l.length) (h : hdK (l.take k) = true) : hdN (l.take k) = hdN l := by
  unfold hdK at h
  simp only [Bool.and_eq_true, decide_eq_true_eq, Bool.or_eq_true, Bool.not_eq_true', List.length_take] at h
  obtain ⟨h1, h2⟩ := h
  have g : ∀ i, i < k → (l.take k)[i]? = l[i]? := fun i hi => by rw [List.getElem?_take, if_pos hi]
  have d : ∀ i j, i + j ≤ k → ((l.take k).drop i).take j = (l.drop i).take j := fun i j hij => by
    rw [List.drop_take, List.take_take, Nat.min_eq_left (by omega)]
  rw [g 13 (by omega)] at h2
  unfold hdN heM reF
  rw [g 13 (by omega)]
  cases hx : l[13]?.getD false
  · simp only [Bool.false_eq_true, if_false]
    rw [g 12 (by omega), d 15 4 (by omega)]
  · rw [hx] at h2
    simp at h2
    simp only [if_true]
    rw [g 32 (by omega), d 35 4 (by omega)]

theorem hd_more {l m : List Bool} (h : hdK l = true) : hdN (l ++ m) = hdN l := by
  have e : (l ++ m).take l.length = l := List.take_left
  have := hd_take (l := l ++ m) (k := l.length) (by simp) (by rw [e]; exact h)
  rw [e] at this
  exact this.symm

/-- A body that is cut is none. -/
theorem pa_short (f : Fr) (h : Good f) (k : Nat) (hk : k < (boL f).length) : paK ((boL f).take k) = false := by
  obtain ⟨_, _, _, _, h5⟩ := bo_all f h
  unfold paK
  by_cases hd : hdK ((boL f).take k) = true
  · have := hd_take (Nat.le_of_lt hk) hd
    rw [hd, this, h5, List.length_take, Nat.min_eq_left (Nat.le_of_lt hk)]
    simp; omega
  · simp only [Bool.not_eq_true] at hd
    rw [hd]; rfl

theorem hdK_more {l m : List Bool} (h : hdK l = true) : hdK (l ++ m) = true := by
  unfold hdK at h ⊢
  simp only [Bool.and_eq_true, decide_eq_true_eq, Bool.or_eq_true, Bool.not_eq_true'] at h ⊢
  have g : (l ++ m)[13]? = l[13]? := List.getElem?_append_left (by omega)
  rw [g, List.length_append]
  exact ⟨by omega, h.2.imp id (by omega)⟩

/-- So is one with bits more. -/
theorem pa_long (f : Fr) (h : Good f) (m : List Bool) : paK (boL f ++ m) = decide (m.length = 0) := by
  obtain ⟨h1, _, _, _, h5⟩ := bo_all f h
  obtain ⟨h2, h3, h4⟩ := paK_parts h1
  have hg : (boL f ++ m)[0]? = some false := by rw [List.getElem?_append_left (by have := hdN_le (boL f); omega)]; exact h3
  unfold paK
  rw [hdK_more h2, hg, hd_more h2, h5, List.length_append, Bool.eq_iff_iff]
  simp

theorem pa_start (l : List Bool) (h : l[0]? = some true) : paK l = false := by unfold paK; rw [h]; simp
end Go.Proofs.Ytffbkcjkmhjfnaa

namespace Go.Proofs.Ytffbkcjkmhjfnaa
open Go.RowKit Go.Sort
set_option linter.unusedVariables false

theorem bfL_asym : ∀ (l m : List Bool), bfL l m = true → bfL m l = false := by
  intro l
  induction l with
  | nil => intro m h; simp [bfL] at h
  | cons x l ih =>
    intro m h
    cases m with
    | nil => simp [bfL] at h
    | cons y m =>
      simp only [bfL] at h ⊢
      by_cases e : x = y
      · rw [if_pos e] at h; rw [if_pos e.symm]; exact ih m h
      · rw [if_neg e] at h; rw [if_neg (fun q => e q.symm)]; cases x <;> cases y <;> simp_all

theorem bfL_self (l : List Bool) : bfL l l = false := by
  cases h : bfL l l with
  | false => rfl
  | true => exact h.symm.trans (bfL_asym l l h)

theorem bfL_trans : ∀ (l m k : List Bool), bfL l m = true → bfL m k = true → bfL l k = true := by
  intro l
  induction l with
  | nil => intro m k h; simp [bfL] at h
  | cons x l ih =>
    intro m k h h2
    cases m with
    | nil => simp [bfL] at h
    | cons y m =>
      cases k with
      | nil => simp [bfL] at h2
      | cons z k =>
        simp only [bfL] at h h2 ⊢
        by_cases e : x = y
        · subst e
          rw [if_pos rfl] at h
          by_cases e2 : x = z
          · rw [if_pos e2] at h2 ⊢; exact ih m k h h2
          · rw [if_neg e2] at h2 ⊢; exact h2
        · rw [if_neg e] at h
          by_cases e2 : y = z
          · subst e2; rw [if_neg e]; exact h
          · rw [if_neg e2] at h2; exact absurd (h.trans h2.symm) e2

theorem bfL_pre (p l m : List Bool) : bfL (p ++ l) (p ++ m) = bfL l m := by
  induction p with
  | nil => rfl
  | cons x p ih => simp [bfL, ih]

/-- Neither wins just if the one is the begin of the other. -/
theorem bfL_none : ∀ (l m : List Bool), bfL l m = false → bfL m l = false → l.length = m.length → l = m := by
  intro l
  induction l with
  | nil => intro m _ _ h; cases m with
    | nil => rfl
    | cons => simp at h
  | cons x l ih =>
    intro m h1 h2 hl
    cases m with
    | nil => simp at hl
    | cons y m =>
      simp only [bfL] at h1 h2
      by_cases e : x = y
      · subst e
        rw [if_pos rfl] at h1 h2
        rw [ih m h1 h2 (by simpa using hl)]
      · rw [if_neg e] at h1; rw [if_neg (fun q => e q.symm)] at h2
        cases x <;> cases y <;> simp_all

theorem bfL_len (l m r : List Bool) (h : l.length = m.length) (hne : l ≠ m) (s : List Bool) : bfL (l ++ r) (m ++ s) = bfL l m := by
  induction l generalizing m with
  | nil => cases m with
    | nil => exact absurd rfl hne
    | cons => simp at h
  | cons x l ih =>
    cases m with
    | nil => simp at h
    | cons y m =>
      simp only [List.cons_append, bfL]
      by_cases e : x = y
      · subst e
        rw [if_pos rfl, if_pos rfl]
        exact ih m (by simpa using h) (fun q => hne (by rw [q]))
      · rw [if_neg e, if_neg e]

/-- Of numbers of as many bits the lesser one wins. -/
theorem bfL_num (m : Nat) : ∀ (a b : Nat) (r s : List Bool), a % 2 ^ m < b % 2 ^ m → bfL (ofL a m ++ r) (ofL b m ++ s) = true := by
  induction m with
  | zero => intro a b r s h; simp [Nat.mod_one] at h
  | succ m ih =>
    intro a b r s h
    have ha := testBit_split a m
    have hb := testBit_split b m
    have la := Nat.mod_lt a (Nat.two_pow_pos m)
    have lb := Nat.mod_lt b (Nat.two_pow_pos m)
    simp only [ofL, List.cons_append, bfL]
    rw [ha, hb] at h
    cases h1 : a.testBit m <;> cases h2 : b.testBit m <;> simp [h1, h2] at h ⊢
    · exact ih a b r s h
    · omega
    · exact ih a b r s h

theorem ofL_inj {a b m : Nat} (ha : a < 2 ^ m) (hb : b < 2 ^ m) (h : ofL a m = ofL b m) : a = b := by
  have := congrArg numL h
  rw [numL_ofL, numL_ofL, Nat.mod_eq_of_lt ha, Nat.mod_eq_of_lt hb] at this
  exact this

theorem conL_false (id : Nat) (rem : Bool) : conL id false rem = [false] ++ ofL id 11 ++ [rem, false] := rfl
theorem conL_true (id : Nat) (rem : Bool) : conL id true rem = [false] ++ ofL (id / 262144) 11 ++ [true, true] ++ ofL id 18 ++ [rem] := rfl

structure Ord (id : Nat) (ext rem : Bool) (id2 : Nat) (ext2 rem2 : Bool) (x y : Bool) : Prop where
  one : x = true → y = false
  none : (x = false ∧ y = false) ↔ (id = id2 ∧ ext = ext2 ∧ rem = rem2)
  less : ext = ext2 → id < id2 → x = true
  base : ext = false → ext2 = true → id = id2 / 262144 → x = true
  data : id = id2 → ext = ext2 → rem = false → rem2 = true → x = true

theorem bf_less {id id2 : Nat} {ext rem rem2 : Bool} (h1 : id ≤ if ext then 536870911 else 2047) (h2 : id2 ≤ if ext then 536870911 else 2047) (h : id < id2) : bfL (conL id ext rem) (conL id2 ext rem2) = true := by
  cases ext
  · simp only [Bool.false_eq_true, if_false] at h1 h2
    rw [conL_false, conL_false, List.append_assoc, List.append_assoc, bfL_pre]
    exact bfL_num 11 _ _ _ _ (by omega)
  · simp only [if_true] at h1 h2
    rw [conL_true, conL_true]
    simp only [List.append_assoc]
    rw [bfL_pre]
    by_cases e : id / 262144 = id2 / 262144
    · rw [e, bfL_pre, bfL_pre]
      exact bfL_num 18 _ _ _ _ (by omega)
    · exact bfL_num 11 _ _ _ _ (by omega)

theorem bf_ord {id id2 : Nat} {ext rem ext2 rem2 : Bool} (h1 : id ≤ if ext then 536870911 else 2047) (h2 : id2 ≤ if ext2 then 536870911 else 2047) : Ord id ext rem id2 ext2 rem2 (bfL (conL id ext rem) (conL id2 ext2 rem2)) (bfL (conL id2 ext2 rem2) (conL id ext rem)) := by
  have hdata : id = id2 → ext = ext2 → rem = false → rem2 = true → bfL (conL id ext rem) (conL id2 ext2 rem2) = true := by
    rintro rfl rfl rfl rfl
    cases ext
    · rw [conL_false, conL_false, bfL_pre]; rfl
    · rw [conL_true, conL_true, bfL_pre]; rfl
  have hdata2 : id = id2 → ext = ext2 → rem = true → rem2 = false → bfL (conL id2 ext2 rem2) (conL id ext rem) = true := by
    rintro rfl rfl rfl rfl
    cases ext
    · rw [conL_false, conL_false, bfL_pre]; rfl
    · rw [conL_true, conL_true, bfL_pre]; rfl
  have hmix : ∀ (i j : Nat) (r s : Bool), i < 2048 → (bfL (conL i false r) (conL j true s) = true ∨ bfL (conL j true s) (conL i false r) = true) ∧ (i = j / 262144 → bfL (conL i false r) (conL j true s) = true) := by
    intro i j r s hi
    rw [conL_false, conL_true]
    simp only [List.append_assoc]
    rw [bfL_pre, bfL_pre]
    by_cases e : ofL i 11 = ofL (j / 262144) 11
    · rw [e, bfL_pre, bfL_pre]
      have : bfL [r, false] ([true, true] ++ (ofL j 18 ++ [s])) = true := by cases r <;> rfl
      exact ⟨.inl this, fun _ => this⟩
    · refine ⟨?_, fun q => absurd (by rw [q]) e⟩
      rw [bfL_len _ _ _ (by simp) e, bfL_len _ _ _ (by simp) (fun q => e q.symm)]
      by_cases hx : bfL (ofL i 11) (ofL (j / 262144) 11) = true
      · exact .inl hx
      · by_cases hy : bfL (ofL (j / 262144) 11) (ofL i 11) = true
        · exact .inr hy
        · exact absurd (bfL_none _ _ (by simpa using hx) (by simpa using hy) (by simp)) e
  refine ⟨bfL_asym _ _, ⟨fun ⟨hx, hy⟩ => ?_, ?_⟩, ?_, ?_, hdata⟩
  · cases ext <;> cases ext2
    · simp only [Bool.false_eq_true, if_false] at h1 h2
      have hid : id = id2 := by
        rcases Nat.lt_trichotomy id id2 with h | h | h
        · rw [bf_less (by simpa using h1) (by simpa using h2) h] at hx; cases hx
        · exact h
        · rw [bf_less (by simpa using h2) (by simpa using h1) h] at hy; cases hy
      refine ⟨hid, rfl, ?_⟩
      cases rem <;> cases rem2
      · rfl
      · rw [hdata hid rfl rfl rfl] at hx; cases hx
      · rw [hdata2 hid rfl rfl rfl] at hy; cases hy
      · rfl
    · simp only [Bool.false_eq_true, if_false] at h1
      rcases (hmix id id2 rem rem2 (by omega)).1 with h | h
      · rw [h] at hx; cases hx
      · rw [h] at hy; cases hy
    · simp only [Bool.false_eq_true, if_false] at h2
      rcases (hmix id2 id rem2 rem (by omega)).1 with h | h
      · rw [h] at hy; cases hy
      · rw [h] at hx; cases hx
    · simp only [if_true] at h1 h2
      have hid : id = id2 := by
        rcases Nat.lt_trichotomy id id2 with h | h | h
        · rw [bf_less (by simpa using h1) (by simpa using h2) h] at hx; cases hx
        · exact h
        · rw [bf_less (by simpa using h2) (by simpa using h1) h] at hy; cases hy
      refine ⟨hid, rfl, ?_⟩
      cases rem <;> cases rem2
      · rfl
      · rw [hdata hid rfl rfl rfl] at hx; cases hx
      · rw [hdata2 hid rfl rfl rfl] at hy; cases hy
      · rfl
  · rintro ⟨rfl, rfl, rfl⟩
    exact ⟨bfL_self _, bfL_self _⟩
  · rintro rfl h
    exact bf_less h1 h2 h
  · rintro rfl rfl h
    simp only [Bool.false_eq_true, if_false] at h1
    exact (hmix id id2 rem rem2 (by omega)).2 h
end Go.Proofs.Ytffbkcjkmhjfnaa
