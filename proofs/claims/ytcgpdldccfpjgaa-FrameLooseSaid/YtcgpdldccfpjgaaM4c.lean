/-
  Plain facts of heads whose loose bits are either.
-/
import Derived.Test.YtcgpdldccfpjgaaM4
namespace Go.Proofs.Ytcgpdldccfpjgaa
open Go.RowKit Go.Sort
set_option linter.unusedVariables false

theorem loose_all {l' : List Bool} {f : Fr} (hg : Good f) (h13 : l'[13]? = some f.ext) (h0 : l'[0]? = some false) (hre : reF l' = ⟨f.id, f.ext, f.rem, f.dlc, []⟩) (hlen : l'.length = heN f.ext + 8 * f.data.length + 15)
    (hd : (l'.drop (heN f.ext)).take (8 * f.data.length) = obL f.data) : paK l' = true ∧ paD l' = f.data := by
  have hM : heM l' = heN f.ext := by unfold heM heN; rw [h13]; rfl
  have hN : hdN l' = l'.length := by unfold hdN; rw [hM, hre, hlen, hg.len]
  have hK : hdK l' = true := by
    unfold hdK
    rw [h13, hlen]
    cases f.ext <;> simp [heN] <;> omega
  refine ⟨by unfold paK; rw [hK, h0, hN]; simp, ?_⟩
  unfold paD
  rw [hM, hre]
  dsimp only
  rw [← hg.len, hd]
  have := byL_obL f.data [] (by decide)
  simpa using this

def shB (id : Nat) (rem : Bool) (dlc : Nat) (data : List UInt8) (m : List Bool) : Prop := ∃ z, m = ([false] ++ ofL id 11 ++ [rem, false]) ++ z :: (ofL dlc 4 ++ obL data)
def shE (id : Nat) (rem : Bool) (dlc : Nat) (data : List UInt8) (m : List Bool) : Prop := ∃ z1 z2 z3, m = ([false] ++ ofL (id / 262144) 11) ++ z1 :: ([true] ++ ofL id 18 ++ [rem] ++ z2 :: z3 :: (ofL dlc 4 ++ obL data))

theorem shB_start (id : Nat) (rem : Bool) (dlc : Nat) (data : List UInt8) : shB id rem dlc data (preL ⟨id, false, rem, dlc, data⟩) := ⟨false, by simp [preL, heL, conL]⟩
theorem shE_start (id : Nat) (rem : Bool) (dlc : Nat) (data : List UInt8) : shE id rem dlc data (preL ⟨id, true, rem, dlc, data⟩) := ⟨true, false, false, by simp [preL, heL, conL]⟩

theorem set_at {p s : List Bool} {x v : Bool} {i : Nat} (hp : p.length = i) : (p ++ x :: s).set i v = p ++ v :: s := by
  subst hp
  induction p with
  | nil => rfl
  | cons y p ih => simp only [List.cons_append, List.length_cons, List.set_cons_succ]; rw [ih]

theorem shB_set {id : Nat} {rem : Bool} {dlc : Nat} {data : List UInt8} {m : List Bool} (h : shB id rem dlc data m) (v : Bool) : shB id rem dlc data (m.set 14 v) := by
  obtain ⟨z, rfl⟩ := h
  exact ⟨v, set_at (by simp)⟩

theorem shE_set {id : Nat} {rem : Bool} {dlc : Nat} {data : List UInt8} {m : List Bool} (h : shE id rem dlc data m) (v : Bool) : shE id rem dlc data (m.set 12 v) ∧ shE id rem dlc data (m.set 33 v) ∧ shE id rem dlc data (m.set 34 v) := by
  obtain ⟨z1, z2, z3, rfl⟩ := h
  refine ⟨⟨v, z2, z3, set_at (by simp)⟩, ⟨z1, v, z3, ?_⟩, ⟨z1, z2, v, ?_⟩⟩
  · have e : ∀ u, ([false] ++ ofL (id / 262144) 11) ++ z1 :: ([true] ++ ofL id 18 ++ [rem] ++ u :: z3 :: (ofL dlc 4 ++ obL data)) = ([false] ++ ofL (id / 262144) 11 ++ [z1] ++ [true] ++ ofL id 18 ++ [rem]) ++ u :: (z3 :: (ofL dlc 4 ++ obL data)) := fun u => by simp
    rw [e, e]; exact set_at (by simp)
  · have e : ∀ u, ([false] ++ ofL (id / 262144) 11) ++ z1 :: ([true] ++ ofL id 18 ++ [rem] ++ z2 :: u :: (ofL dlc 4 ++ obL data)) = ([false] ++ ofL (id / 262144) 11 ++ [z1] ++ [true] ++ ofL id 18 ++ [rem, z2]) ++ u :: (ofL dlc 4 ++ obL data) := fun u => by simp
    rw [e, e]; exact set_at (by simp)

theorem shB_len {id : Nat} {rem : Bool} {dlc : Nat} {data : List UInt8} {m : List Bool} (h : shB id rem dlc data m) : m.length = 19 + 8 * data.length := by
  obtain ⟨z, rfl⟩ := h; simp [obL_length]; omega
theorem shE_len {id : Nat} {rem : Bool} {dlc : Nat} {data : List UInt8} {m : List Bool} (h : shE id rem dlc data m) : m.length = 39 + 8 * data.length := by
  obtain ⟨z1, z2, z3, rfl⟩ := h; simp [obL_length]; omega

theorem shB_end {id : Nat} {rem : Bool} {dlc : Nat} {data : List UInt8} {m : List Bool} (hg : Good ⟨id, false, rem, dlc, data⟩) (h : shB id rem dlc data m) :
    paK (m ++ biV (suV m)) = true ∧ suV (m ++ biV (suV m)) = 0#15 ∧ reF (m ++ biV (suV m)) = ⟨id, false, rem, dlc, []⟩ ∧ paD (m ++ biV (suV m)) = data := by
  have hl := shB_len h
  obtain ⟨c, hc⟩ : ∃ c, c = biV (suV m) := ⟨_, rfl⟩
  have hcl : c.length = 15 := by rw [hc]; exact biV_length _
  have hs := suV_whole m
  rw [← hc] at hs ⊢
  obtain ⟨z, rfl⟩ := h
  have hid := hg.id
  have hdl := hg.dlc
  simp only [Bool.false_eq_true, if_false] at hid
  dsimp only at hdl
  obtain ⟨l', hl'⟩ : ∃ l', l' = [false] ++ ofL id 11 ++ [rem, false] ++ z :: (ofL dlc 4 ++ obL data) ++ c := ⟨_, rfl⟩
  have e1 : l' = [false] ++ (ofL id 11 ++ ([rem, false, z] ++ ofL dlc 4 ++ obL data ++ c)) := by rw [hl']; simp
  have e2 : l' = ([false] ++ ofL id 11) ++ rem :: ([false, z] ++ ofL dlc 4 ++ obL data ++ c) := by rw [hl']; simp
  have e3 : l' = ([false] ++ ofL id 11 ++ [rem, false, z]) ++ (ofL dlc 4 ++ (obL data ++ c)) := by rw [hl']; simp
  have e4 : l' = ([false] ++ ofL id 11 ++ [rem]) ++ false :: ([z] ++ ofL dlc 4 ++ obL data ++ c) := by rw [hl']; simp
  have e5 : l' = ([false] ++ ofL id 11 ++ [rem, false, z] ++ ofL dlc 4) ++ (obL data ++ c) := by rw [hl']; simp
  rw [← hl'] at hs ⊢
  have h1 : (l'.drop 1).take 11 = ofL id 11 := by rw [e1]; exact mid (by simp) (by simp)
  have h2 : l'[12]? = some rem := by rw [e2]; exact att (by simp)
  have h3 : (l'.drop 15).take 4 = ofL dlc 4 := by rw [e3]; exact mid (by simp) (by simp)
  have h4 : l'[13]? = some false := by rw [e4]; exact att (by simp)
  have h5 : (l'.drop 19).take (8 * data.length) = obL data := by rw [e5]; exact mid (by simp) (obL_length _)
  have h0 : l'[0]? = some false := by rw [e1]; rfl
  have hre : reF l' = ⟨id, false, rem, dlc, []⟩ := by
    unfold reF
    rw [h4]
    simp only [Option.getD_some, Bool.false_eq_true, if_false]
    rw [h1, h2, h3, numL_ofL, numL_ofL, Nat.mod_eq_of_lt (by omega), Nat.mod_eq_of_lt (by omega)]
    rfl
  obtain ⟨p1, p2⟩ := loose_all (f := ⟨id, false, rem, dlc, data⟩) hg h4 h0 hre (by rw [e5]; simp [obL_length, hcl, heN]; omega) h5
  exact ⟨p1, hs, hre, p2⟩

theorem shE_end {id : Nat} {rem : Bool} {dlc : Nat} {data : List UInt8} {m : List Bool} (hg : Good ⟨id, true, rem, dlc, data⟩) (h : shE id rem dlc data m) :
    paK (m ++ biV (suV m)) = true ∧ suV (m ++ biV (suV m)) = 0#15 ∧ reF (m ++ biV (suV m)) = ⟨id, true, rem, dlc, []⟩ ∧ paD (m ++ biV (suV m)) = data := by
  have hl := shE_len h
  obtain ⟨c, hc⟩ : ∃ c, c = biV (suV m) := ⟨_, rfl⟩
  have hcl : c.length = 15 := by rw [hc]; exact biV_length _
  have hs := suV_whole m
  rw [← hc] at hs ⊢
  obtain ⟨z1, z2, z3, rfl⟩ := h
  have hid := hg.id
  have hdl := hg.dlc
  simp only [if_true] at hid
  dsimp only at hdl
  obtain ⟨l', hl'⟩ : ∃ l', l' = [false] ++ ofL (id / 262144) 11 ++ z1 :: ([true] ++ ofL id 18 ++ [rem] ++ z2 :: z3 :: (ofL dlc 4 ++ obL data)) ++ c := ⟨_, rfl⟩
  have e1 : l' = [false] ++ (ofL (id / 262144) 11 ++ ([z1, true] ++ ofL id 18 ++ [rem, z2, z3] ++ ofL dlc 4 ++ obL data ++ c)) := by rw [hl']; simp
  have e2 : l' = ([false] ++ ofL (id / 262144) 11 ++ [z1, true] ++ ofL id 18) ++ rem :: ([z2, z3] ++ ofL dlc 4 ++ obL data ++ c) := by rw [hl']; simp
  have e3 : l' = ([false] ++ ofL (id / 262144) 11 ++ [z1, true] ++ ofL id 18 ++ [rem, z2, z3]) ++ (ofL dlc 4 ++ (obL data ++ c)) := by rw [hl']; simp
  have e4 : l' = ([false] ++ ofL (id / 262144) 11 ++ [z1]) ++ true :: (ofL id 18 ++ [rem, z2, z3] ++ ofL dlc 4 ++ obL data ++ c) := by rw [hl']; simp
  have e5 : l' = ([false] ++ ofL (id / 262144) 11 ++ [z1, true] ++ ofL id 18 ++ [rem, z2, z3] ++ ofL dlc 4) ++ (obL data ++ c) := by rw [hl']; simp
  have e6 : l' = ([false] ++ ofL (id / 262144) 11 ++ [z1, true]) ++ (ofL id 18 ++ ([rem, z2, z3] ++ ofL dlc 4 ++ obL data ++ c)) := by rw [hl']; simp
  rw [← hl'] at hs ⊢
  have h1 : (l'.drop 1).take 11 = ofL (id / 262144) 11 := by rw [e1]; exact mid (by simp) (by simp)
  have h2 : l'[32]? = some rem := by rw [e2]; exact att (by simp)
  have h3 : (l'.drop 35).take 4 = ofL dlc 4 := by rw [e3]; exact mid (by simp) (by simp)
  have h4 : l'[13]? = some true := by rw [e4]; exact att (by simp)
  have h5 : (l'.drop 39).take (8 * data.length) = obL data := by rw [e5]; exact mid (by simp) (obL_length _)
  have h6 : (l'.drop 14).take 18 = ofL id 18 := by rw [e6]; exact mid (by simp) (by simp)
  have h0 : l'[0]? = some false := by rw [e1]; rfl
  have hre : reF l' = ⟨id, true, rem, dlc, []⟩ := by
    unfold reF
    rw [h4]
    simp only [Option.getD_some, if_true]
    rw [h1, h2, h3, h6, numL_ofL, numL_ofL, numL_ofL, Nat.mod_eq_of_lt (by omega : dlc < 2 ^ 4), Nat.mod_eq_of_lt (by omega : id / 262144 < 2 ^ 11)]
    simp only [Option.getD_some, Fr.mk.injEq, and_true, true_and]
    omega
  obtain ⟨p1, p2⟩ := loose_all (f := ⟨id, true, rem, dlc, data⟩) hg h4 h0 hre (by rw [e5]; simp [obL_length, hcl, heN]; omega) h5
  exact ⟨p1, hs, hre, p2⟩
end Go.Proofs.Ytcgpdldccfpjgaa
