/-
  Contracts of Before (the program's and the document's).
  Contracts of Wire (the program's and the document's).
  Plain facts of frames and their bits.
-/
import Derived.Test.YtgpmhmdofefdcaaGreatB4e
import Derived.WalkSmall
namespace Go.Proofs.YtgpmhmdofefdcaaGreat
open Go.RowKit Go.Sort
set_option linter.unusedVariables false

/-- Whether the first row wins against the second one. -/
def bfL : List Bool → List Bool → Bool
  | x :: l, y :: m => if x = y then bfL l m else y
  | _, _ => false

theorem bfL_step {l m : List Bool} {k : Nat} {x : Bool} (h1 : l[k]? = some x) (h2 : m[k]? = some x) : bfL (l.drop (k + 1)) (m.drop (k + 1)) = bfL (l.drop k) (m.drop k) := by
  rw [drop_at h1, drop_at h2]; simp [bfL]

theorem bfL_stop {l m : List Bool} {k : Nat} {x y : Bool} (h1 : l[k]? = some x) (h2 : m[k]? = some y) (h : x ≠ y) : bfL (l.drop k) (m.drop k) = y := by
  rw [drop_at h1, drop_at h2]; simp [bfL, h]

theorem bfL_end {l m : List Bool} {k : Nat} (h : l.length ≤ k ∨ m.length ≤ k) : bfL (l.drop k) (m.drop k) = false := by
  rcases h with h | h
  · rw [List.drop_eq_nil_of_le h]; simp [bfL]
  · rw [List.drop_eq_nil_of_le h]; cases l.drop k <;> simp [bfL]

theorem boxed2 (w : World) (E : TypeId) (u v : Array Value) : ∃ w0, Hid ((w.alloc (.cells u E)).alloc (.cells v E) = w0) ∧ w0.heap[w.heap.size]? = some (.cells u E (0, 0)) ∧ w0.heap[w.heap.size + 1]? = some (.cells v E (0, 0)) ∧ Below w.heap.size w w0 := by
  obtain ⟨h1, h2, h3⟩ := two_bx (w := w) (E := E) (F := E) (u := u) (v := v) (Below.refl _ _)
  exact ⟨_, rfl, h1, h2, h3⟩

theorem held10 {w0 w' : World} {g g' : Nat} {E : TypeId} {v0 v1 v2 v3 v4 u0 u1 u2 u3 u4 : Value} (h : w0.heap[g]? = some (.cells #[v0, v1, v2, v3, v4] E (0, 0))) (h' : w0.heap[g']? = some (.cells #[u0, u1, u2, u3, u4] E (0, 0))) (hb : Below w0.heap.size w0 w') :
    w'.cell? ⟨g, 0, none⟩ = some v0 ∧ w'.cell? ⟨g, 1, none⟩ = some v1 ∧ w'.cell? ⟨g, 2, none⟩ = some v2 ∧ w'.cell? ⟨g, 3, none⟩ = some v3 ∧ w'.cell? ⟨g, 4, none⟩ = some v4 ∧
    w'.cell? ⟨g', 0, none⟩ = some u0 ∧ w'.cell? ⟨g', 1, none⟩ = some u1 ∧ w'.cell? ⟨g', 2, none⟩ = some u2 ∧ w'.cell? ⟨g', 3, none⟩ = some u3 ∧ w'.cell? ⟨g', 4, none⟩ = some u4 ∧ Below w0.heap.size w0 w' := by
  obtain ⟨k0, k1, k2, k3, k4⟩ := bx5 (bx_below h hb)
  obtain ⟨q0, q1, q2, q3, q4⟩ := bx5 (bx_below h' hb)
  exact ⟨k0, k1, k2, k3, k4, q0, q1, q2, q3, q4, hb⟩

theorem before_any (w : World) (id : Nat) (ext rem : Bool) (dlc : Nat) (a : Option Addr) (n c : Nat) (id2 : Nat) (ext2 rem2 : Bool) (dlc2 : Nat) (a2 : Option Addr) (n2 c2 : Nat) (hi : id < 4294967296) (hd : dlc < 256) (hi2 : id2 < 4294967296) (hd2 : dlc2 < 256) :
    Calls Tryz.prog 19 #[.agg #[.int .u32 (id : Int), .bool ext, .bool rem, .int .u8 (dlc : Int), .slice a n c], .agg #[.int .u32 (id2 : Int), .bool ext2, .bool rem2, .int .u8 (dlc2 : Int), .slice a2 n2 c2]] w
      fun e w' => e = .returned (.bool (riF id ext rem dlc n && riF id2 ext2 rem2 dlc2 n2 && bfL (conL id ext rem) (conL id2 ext2 rem2))) ∧ Below w.heap.size w w' := by
  obtain ⟨w0, hw0, hbx, hby, gg0⟩ := boxed2 w 26 #[.int .u32 (id : Int), .bool ext, .bool rem, .int .u8 (dlc : Int), .slice a n c] #[.int .u32 (id2 : Int), .bool ext2, .bool rem2, .int .u8 (dlc2 : Int), .slice a2 n2 c2]
  have hr1 := fun w0 => frRight_any w0 id ext rem dlc a n c hi hd
  have hr2 := fun w0 => frRight_any w0 id2 ext2 rem2 dlc2 a2 n2 c2 hi2 hd2
  cases hA : riF id ext rem dlc n
  · rw [hA] at hr1
    go_enter Tryz.func19, Tryz.ntmps19
    go_wp2_with (first
      | (go_at_call 18; rw [hw0.out]; (with_reducible refine (hr1 w0).mono ?_); rintro e w1 ⟨rfl, g1⟩))
    go_ret
    exact ⟨rfl, bstep gg0 g1⟩
  rw [hA] at hr1
  cases hB : riF id2 ext2 rem2 dlc2 n2
  · rw [hB] at hr2
    go_enter Tryz.func19, Tryz.ntmps19
    go_wp2_with (first
      | (go_at_call 18; rw [hw0.out]; (with_reducible refine (hr1 w0).mono ?_); rintro e w1 ⟨rfl, g1⟩; obtain ⟨q0, q1, q2, q3, q4⟩ := bx5 (bx_below hby g1))
      | (go_at_call 18; (with_reducible refine (hr2 w1).mono ?_); rintro e w2 ⟨rfl, g2⟩))
    go_ret
    exact ⟨rfl, bstep (bstep gg0 g1) g2⟩
  rw [hB] at hr2
  have hc1 := fun w0 => contest_any w0 id ext rem dlc a n c hi
  have hc2 := fun w0 => contest_any w0 id2 ext2 rem2 dlc2 a2 n2 c2 hi2
  have hlen1 := conL_length id ext rem
  have hlen2 := conL_length id2 ext2 rem2
  obtain ⟨N1, hN1⟩ : ∃ N1, N1 = conN ext := ⟨_, rfl⟩
  obtain ⟨N2, hN2⟩ : ∃ N2, N2 = conN ext2 := ⟨_, rfl⟩
  obtain ⟨l1, hl1⟩ : ∃ l1, l1 = conL id ext rem := ⟨_, rfl⟩
  obtain ⟨l2, hl2⟩ : ∃ l2, l2 = conL id2 ext2 rem2 := ⟨_, rfl⟩
  simp only [← hN1, ← hl1] at hc1 hlen1
  simp only [← hN2, ← hl2] at hc2 hlen2
  rw [← hl1, ← hl2]
  have hN : N1 ≤ 33 ∧ N2 ≤ 33 := by rw [hN1, hN2]; unfold conN; constructor <;> split <;> omega
  clear hN1 hN2 hl1 hl2 hA hB
  obtain ⟨p, hp⟩ : ∃ p, p = min N1 N2 := ⟨_, rfl⟩
  have hp2 : p ≤ N1 ∧ p ≤ N2 ∧ (N1 ≤ p ∨ N2 ≤ p) := by omega
  have hmin : ∀ (ts : Array TypeId) (t : TypeId) (w' : World), (Builtin.min_ ts t #[.int .i64 (N1 : Int), .int .i64 (N2 : Int)]).run Tryz.prog w' = .ok (.int .i64 (p : Int)) w' := fun ts t w' => by
    rw [run_min_int2]; congr 2; split <;> omega
  clear hp
  obtain ⟨bt, hbt⟩ : ∃ bt, bt = bfL l1 l2 := ⟨_, rfl⟩
  rw [← hbt]
  simp only [Bool.true_and]
  go_enter Tryz.func19, Tryz.ntmps19
  go_wp2_with (first
    | (go_at_call 18; rw [hw0.out]; (with_reducible refine (hr1 w0).mono ?_); rintro e w1 ⟨rfl, g1⟩; obtain ⟨q0, q1, q2, q3, q4⟩ := bx5 (bx_below hby g1))
    | (go_at_call 18; (with_reducible refine (hr2 w1).mono ?_); rintro e w2 ⟨rfl, g2⟩; have hbx2 := bx_below (bx_below hbx g1) g2; have hby2 := bx_below (bx_below hby g1) g2; have gg2 := bstep (bstep gg0 g1) g2))
  clear q0 q1 q2 q3 q4
  have hd1 : Below w2.heap.size w2 w2.drew := (Below.refl _ _).drew
  go_region_held3 (fun w' => w'.cell? ⟨w.heap.size, 0, none⟩ = some (.int .u32 (id : Int)) ∧ w'.cell? ⟨w.heap.size, 1, none⟩ = some (.bool ext) ∧ w'.cell? ⟨w.heap.size, 2, none⟩ = some (.bool rem) ∧ w'.cell? ⟨w.heap.size, 3, none⟩ = some (.int .u8 (dlc : Int)) ∧ w'.cell? ⟨w.heap.size, 4, none⟩ = some (.slice a n c) ∧
      w'.cell? ⟨w.heap.size + 1, 0, none⟩ = some (.int .u32 (id2 : Int)) ∧ w'.cell? ⟨w.heap.size + 1, 1, none⟩ = some (.bool ext2) ∧ w'.cell? ⟨w.heap.size + 1, 2, none⟩ = some (.bool rem2) ∧ w'.cell? ⟨w.heap.size + 1, 3, none⟩ = some (.int .u8 (dlc2 : Int)) ∧ w'.cell? ⟨w.heap.size + 1, 4, none⟩ = some (.slice a2 n2 c2) ∧ Below w2.heap.size w2 w')
    (first
      | exact held10 hbx2 hby2 hd1
      | exact held10 hbx2 hby2 g15
      | exact held10 hbx2 hby2 g16)
    (first
      | (go_simp; go_at_call 39; (with_reducible refine Calls.mono (hc1 w2.drew) ?_); rintro e w5 ⟨a5, c5, rfl, hol5, g5⟩; have g15 : Below w2.heap.size w2 w5 := hd1.trans g5)
      | (go_simp; go_at_call 39; (with_reducible refine Calls.mono (hc2 w5) ?_); rintro e w6 ⟨a6, c6, rfl, hol6, g6⟩; have hol56 := (hol5.below g6).rl; have hr6 := hol6.rl; have g16 := bstep g15 g6))
  all_goals
    have gg6 := bstep gg2 g16
    clear hbx2 hby2 hc1 hc2 hr1 hr2 hbx hby hol5 hol6 g15 g16 hd1 gg2 gg0 g1 g2 g5 g6
    have HB := hid hbt; clear hbt
    go_wp2_with fail
    go_loopw [25] (fun i wr => ∃ k : Nat, k ≤ p ∧ i = .int .i64 (k : Int) ∧ bfL (l1.drop k) (l2.drop k) = bt ∧ Below w6.heap.size w6 wr) (fun i _ => p - (intOf i).toNat)
    case atStart => exact ⟨0, Nat.zero_le _, rfl, HB.out.symm, Below.refl _ _⟩
    case round =>
      obtain ⟨k, hk, rfl, hbf, hb⟩ := hrel
      have HF := hid hbf; clear hbf
      by_cases hlt : k < p
      · obtain ⟨b1, off1, x, rfl, hx, hck⟩ := (hol56.below hb).at (k := k) (by omega)
        obtain ⟨b2, off2, y, rfl, hy, hck2⟩ := (hr6.below hb).at (k := k) (by omega)
        have HX := hid hx; clear hx
        have HY := hid hy; clear hy
        have i1 : (k : Int) < (N1 : Int) := by omega
        have i2 : (k : Int) < (N2 : Int) := by omega
        by_cases hxy : x = y
        · subst hxy
          clear hmin
          go_wp2_with fail
          go_big_quiet (fail)
          go_wp2
          go_roundw
          case rel => exact ⟨k + 1, by omega, by go_num, (bfL_step HX.out HY.out).trans HF.out, below_drewN hb nq⟩
          case measure => simp [intOf]; omega
        · have hne : (x == y) = false := by simpa using hxy
          have HN : Hid (y = bt) := (bfL_stop HX.out HY.out hxy).symm.trans HF.out
          clear hxy hmin
          go_wp2_with fail
          go_big_quiet (fail)
          go_wp2
          go_ret
          exact ⟨ret_bool HN.out, bstep gg6 (below_drewN hb nq)⟩
      · obtain rfl : k = p := by omega
        have HE : Hid (bt = false) := HF.out.symm.trans (bfL_end (by rw [hlen1, hlen2]; exact hp2.2.2))
        clear hmin
        go_wp2
        go_ret
        exact ⟨ret_bool HE.out.symm, bstep gg6 hb⟩
end Go.Proofs.YtgpmhmdofefdcaaGreat

namespace Go.Proofs.YtgpmhmdofefdcaaGreat
open Go.RowKit Go.Sort
set_option linter.unusedVariables false

/-- A wire form. -/
def wiL (f : Fr) : List Bool := putL (boL f) ++ List.replicate 10 true

theorem rep_snoc {α : Type} (l : List α) (k : Nat) (x : α) : l ++ List.replicate k x ++ [x] = l ++ List.replicate (k + 1) x := by rw [List.append_assoc, List.replicate_succ']

theorem boL_le {f : Fr} {n : Nat} (hl : f.data.length = n) (hn : n ≤ 8) : (boL f).length ≤ 118 ∧ (boL f).length = heN f.ext + 8 * n + 15 := by
  rw [boL_length, hl]; unfold heN; split <;> omega

theorem wire_wrong (w : World) (id : Nat) (ext rem : Bool) (dlc : Nat) (a : Option Addr) (n c : Nat) (hi : id < 4294967296) (hd : dlc < 256) (hw : riF id ext rem dlc n = false) :
    Calls Tryz.prog 15 #[.agg #[.int .u32 (id : Int), .bool ext, .bool rem, .int .u8 (dlc : Int), .slice a n c]] w fun e w' => e = .returned (.tuple #[.slice none 0 0, .int .i64 40]) ∧ Below w.heap.size w w' := by
  go_enter Tryz.func15, Tryz.ntmps15
  go_wp2_with (go_at_call 36; refine (body_wrong _ id ext rem dlc a n c hi hd hw).mono ?_; rintro e w1 ⟨rfl, g1⟩)
  go_ret2
  exact ⟨rfl, bstep (bnew0 w _) g1⟩

theorem wire_any (w : World) (id : Nat) (ext rem : Bool) (dlc : Nat) (a : Option Addr) (n c : Nat) (l : List UInt8) (hi : id < 4294967296) (hd : dlc < 256) (h : RL bv w a n c l) (hr : riF id ext rem dlc n = true) :
    Calls Tryz.prog 15 #[.agg #[.int .u32 (id : Int), .bool ext, .bool rem, .int .u8 (dlc : Int), .slice a n c]] w fun e w' => ∃ a' c', e = .returned (.tuple #[.slice a' ((putL (boL ⟨id, ext, rem, dlc, l⟩)).length + 10) c', .int .i64 0]) ∧
      OL .bool 4 w.heap.size w' a' ((putL (boL ⟨id, ext, rem, dlc, l⟩)).length + 10) c' (wiL ⟨id, ext, rem, dlc, l⟩) ∧ Below w.heap.size w w' := by
  obtain ⟨hn1, hn8, _, _⟩ := riF_long hr
  obtain ⟨hb1, hb2⟩ := boL_le (f := ⟨id, ext, rem, dlc, l⟩) h.len hn8
  have hpl := putL_len (boL ⟨id, ext, rem, dlc, l⟩)
  have hbody := fun w0 h0 => body_any w0 id ext rem dlc a n c l hi hd h0 hr
  unfold wiL
  obtain ⟨b, hb⟩ : ∃ b, b = boL ⟨id, ext, rem, dlc, l⟩ := ⟨_, rfl⟩
  rw [← hb] at hb1 hb2 hpl ⊢
  simp only [← hb] at hbody
  obtain ⟨N, hN⟩ : ∃ N, N = heN ext + 8 * n + 15 := ⟨_, rfl⟩
  simp only [← hN] at hbody
  have hN2 : N ≤ 1000 := by rw [hN]; unfold heN; split <;> omega
  obtain ⟨m, hm⟩ : ∃ m, m = (putL b).length := ⟨_, rfl⟩
  have HM := hid hm
  rw [← hm] at hpl ⊢
  have hm2 : m ≤ 1000 := by omega
  clear hm hpl hb hb1 hb2 hN hn1
  obtain ⟨w0, hw0, _, _, _, _, _, _, gg0⟩ := boxed w 26 (.int .u32 (id : Int)) (.bool ext) (.bool rem) (.int .u8 (dlc : Int)) (.slice a n c)
  have h0 := h.below gg0
  go_enter Tryz.func15, Tryz.ntmps15
  go_wp2_with (first
    | (go_at_call 36; rw [hw0.out]; (with_reducible refine (hbody w0 h0).mono ?_); rintro e w1 ⟨a1, c1, rfl, hol1, g1⟩; have gg1 := bstep gg0 g1)
    | (go_at_call 37; refine (put_any w1 a1 _ c1 b hol1.rl (by omega)).mono ?_; rw [← HM.out]; rintro e w2 ⟨a2, c2, rfl, hol2, g2⟩; have gg2 := bstep gg1 g2))
  go_loopw [6, 17] (fun v i wr => ∃ (k : Nat) (a' : Option Addr) (c' : Nat), k ≤ 10 ∧ i = .int .i64 (k : Int) ∧ v = .slice a' (m + k) c' ∧ OL .bool 4 w.heap.size wr a' (m + k) c' (putL b ++ List.replicate k true) ∧ Below w.heap.size w wr) (fun _ i _ => 10 - (intOf i).toNat)
  case atStart => exact ⟨0, a2, c2, by omega, rfl, rfl, by simpa using hol2.mono gg1.size, gg2⟩
  case round =>
    obtain ⟨k, a', c', hk, rfl, rfl, hol, hb⟩ := hrel
    have hs := hb.size
    by_cases hlt : k < 10
    · go_wp2_with (at_builtin; refine wpList_app (f := Value.bool) tB rfl _ _ rfl rfl (hol.alloc _) rfl (lit1 wr true) (fun _ => rfl) (by omega) (by omega) (by simp; omega) ?_; intro w3 a3 c3 hol3 hb3)
      go_roundw
      case rel => exact ⟨k + 1, a3, c3, by omega, by go_num, rfl, by rw [← rep_snoc]; exact hol3, (hb.alloc hs _).trans hb3⟩
      case measure => simp [intOf]; omega
    · obtain rfl : k = 10 := by omega
      go_wp2
      go_ret2
      exact ⟨a', c', rfl, hol, hb⟩

end Go.Proofs.YtgpmhmdofefdcaaGreat

namespace Go.Proofs.YtgpmhmdofefdcaaGreat
open Go.RowKit Go.Sort
set_option linter.unusedVariables false

theorem mid {p m s : List Bool} {i j : Nat} (hp : p.length = i) (hm : m.length = j) : ((p ++ (m ++ s)).drop i).take j = m := by
  rw [← hp, List.drop_left, ← hm, List.take_left]
theorem att {p s : List Bool} {x : Bool} {i : Nat} (hp : p.length = i) : (p ++ x :: s)[i]? = some x := by
  rw [← hp, List.getElem?_append_right (Nat.le_refl _), Nat.sub_self]; rfl

theorem he_13 (id : Nat) (ext rem : Bool) (dlc : Nat) (r : List Bool) : (heL id ext rem dlc ++ r)[13]? = some ext ∧ (heL id ext rem dlc ++ r)[0]? = some false := by
  cases ext
  · have e : heL id false rem dlc ++ r = ([false] ++ ofL id 11 ++ [rem]) ++ false :: ([false] ++ ofL dlc 4 ++ r) := by simp [heL, conL]
    exact ⟨by rw [e]; exact att (by simp), by rw [e]; rfl⟩
  · have e : heL id true rem dlc ++ r = ([false] ++ ofL (id / 262144) 11 ++ [true]) ++ true :: (ofL id 18 ++ [rem] ++ [false, false] ++ ofL dlc 4 ++ r) := by simp [heL, conL]
    exact ⟨by rw [e]; exact att (by simp), by rw [e]; rfl⟩

theorem he_reF {id : Nat} {ext rem : Bool} {dlc : Nat} (r : List Bool) (hi : id ≤ if ext then 536870911 else 2047) (hd : dlc ≤ 15) : reF (heL id ext rem dlc ++ r) = ⟨id, ext, rem, dlc, []⟩ := by
  unfold reF
  rw [(he_13 id ext rem dlc r).1]
  cases ext
  · simp only [Bool.false_eq_true, if_false] at hi
    have e1 : heL id false rem dlc ++ r = [false] ++ (ofL id 11 ++ ([rem, false, false] ++ ofL dlc 4 ++ r)) := by simp [heL, conL]
    have e2 : heL id false rem dlc ++ r = ([false] ++ ofL id 11) ++ rem :: ([false, false] ++ ofL dlc 4 ++ r) := by simp [heL, conL]
    have e3 : heL id false rem dlc ++ r = ([false] ++ ofL id 11 ++ [rem, false, false]) ++ (ofL dlc 4 ++ r) := by simp [heL, conL]
    have h1 : ((heL id false rem dlc ++ r).drop 1).take 11 = ofL id 11 := by rw [e1]; exact mid (by simp) (by simp)
    have h2 : (heL id false rem dlc ++ r)[12]? = some rem := by rw [e2]; exact att (by simp)
    have h3 : ((heL id false rem dlc ++ r).drop 15).take 4 = ofL dlc 4 := by rw [e3]; exact mid (by simp) (by simp)
    rw [h1, h2, h3, numL_ofL, numL_ofL, Nat.mod_eq_of_lt (by omega), Nat.mod_eq_of_lt (by omega)]
    rfl
  · simp only [if_true] at hi
    have e1 : heL id true rem dlc ++ r = [false] ++ (ofL (id / 262144) 11 ++ ([true, true] ++ ofL id 18 ++ [rem, false, false] ++ ofL dlc 4 ++ r)) := by simp [heL, conL]
    have e2 : heL id true rem dlc ++ r = ([false] ++ ofL (id / 262144) 11 ++ [true, true] ++ ofL id 18) ++ rem :: ([false, false] ++ ofL dlc 4 ++ r) := by simp [heL, conL]
    have e3 : heL id true rem dlc ++ r = ([false] ++ ofL (id / 262144) 11 ++ [true, true] ++ ofL id 18 ++ [rem, false, false]) ++ (ofL dlc 4 ++ r) := by simp [heL, conL]
    have e4 : heL id true rem dlc ++ r = ([false] ++ ofL (id / 262144) 11 ++ [true, true]) ++ (ofL id 18 ++ ([rem, false, false] ++ ofL dlc 4 ++ r)) := by simp [heL, conL]
    have h1 : ((heL id true rem dlc ++ r).drop 1).take 11 = ofL (id / 262144) 11 := by rw [e1]; exact mid (by simp) (by simp)
    have h2 : (heL id true rem dlc ++ r)[32]? = some rem := by rw [e2]; exact att (by simp)
    have h3 : ((heL id true rem dlc ++ r).drop 35).take 4 = ofL dlc 4 := by rw [e3]; exact mid (by simp) (by simp)
    have h4 : ((heL id true rem dlc ++ r).drop 14).take 18 = ofL id 18 := by rw [e4]; exact mid (by simp) (by simp)
    rw [h1, h2, h3, h4, numL_ofL, numL_ofL, numL_ofL, Nat.mod_eq_of_lt (by omega : dlc < 2 ^ 4), Nat.mod_eq_of_lt (by omega : id / 262144 < 2 ^ 11)]
    simp only [Option.getD_some, if_true, Fr.mk.injEq, and_true]
    omega

/-- What is asked of a right frame. -/
structure Good (f : Fr) : Prop where
  id : f.id ≤ if f.ext then 536870911 else 2047
  dlc : f.dlc ≤ 15
  len : f.data.length = lonF f.rem f.dlc

theorem good_iff (f : Fr) (n : Nat) (hn : f.data.length = n) : riF f.id f.ext f.rem f.dlc n = true ↔ Good f := by
  unfold riF
  simp only [Bool.and_eq_true, decide_eq_true_eq]
  exact ⟨fun ⟨⟨h1, h2⟩, h3⟩ => ⟨h1, h2, by rw [hn]; exact h3⟩, fun ⟨h1, h2, h3⟩ => ⟨⟨h1, h2⟩, by rw [← hn]; exact h3⟩⟩

theorem boL_split (f : Fr) : boL f = heL f.id f.ext f.rem f.dlc ++ (obL f.data ++ biV (suV (preL f))) := by unfold boL preL; rw [List.append_assoc]

theorem he_head (f : Fr) (h : Good f) (r : List Bool) : hdK (heL f.id f.ext f.rem f.dlc ++ r) = true ∧ heM (heL f.id f.ext f.rem f.dlc ++ r) = heN f.ext ∧ hdN (heL f.id f.ext f.rem f.dlc ++ r) = heN f.ext + 8 * lonF f.rem f.dlc + 15 := by
  have h13 := (he_13 f.id f.ext f.rem f.dlc r).1
  have hM : heM (heL f.id f.ext f.rem f.dlc ++ r) = heN f.ext := by unfold heM heN; rw [h13]; rfl
  refine ⟨?_, hM, by unfold hdN; rw [hM, he_reF r h.id h.dlc]⟩
  unfold hdK
  rw [h13, List.length_append, heL_length]
  cases f.ext <;> simp [heN] <;> omega

theorem bo_all (f : Fr) (h : Good f) : paK (boL f) = true ∧ suV (boL f) = 0#15 ∧ reF (boL f) = ⟨f.id, f.ext, f.rem, f.dlc, []⟩ ∧ paD (boL f) = f.data ∧ hdN (boL f) = (boL f).length := by
  obtain ⟨h1, h2, h3⟩ := he_head f h (obL f.data ++ biV (suV (preL f)))
  have h4 := he_reF (rem := f.rem) (obL f.data ++ biV (suV (preL f))) h.id h.dlc
  have h5 := (he_13 f.id f.ext f.rem f.dlc (obL f.data ++ biV (suV (preL f)))).2
  rw [← boL_split] at h1 h2 h3 h4 h5
  have hl : hdN (boL f) = (boL f).length := by rw [h3, boL_length, h.len]
  refine ⟨?_, ?_, h4, ?_, hl⟩
  · unfold paK
    rw [h1, h5, hl]; simp
  · unfold boL; exact suV_whole _
  · unfold paD
    rw [h2, h4]
    have e : ((boL f).drop (heN f.ext)).take (8 * lonF f.rem f.dlc) = obL f.data := by
      rw [boL_split]; exact mid (heL_length _ _ _ _) (by rw [obL_length, h.len])
    rw [e]
    have := byL_obL f.data [] (by decide)
    simpa using this

theorem bo_inj {f g : Fr} (hf : Good f) (hg : Good g) : boL f = boL g ↔ f = g := by
  refine ⟨fun e => ?_, fun e => by rw [e]⟩
  obtain ⟨_, _, h1, h2, _⟩ := bo_all f hf
  obtain ⟨_, _, h3, h4, _⟩ := bo_all g hg
  rw [e] at h1 h2
  rw [h1] at h3
  rw [h2] at h4
  cases f; cases g
  simp only [Fr.mk.injEq, and_true] at h3 h4 ⊢
  exact ⟨h3.1, h3.2.1, h3.2.2.1, h3.2.2.2, h4⟩

/-- What begins as a body tells its length as soon as the head is there. -/
theorem bo_take (f : Fr) (h : Good f) (i : Nat) (hi : i < heN f.ext) : hdK ((boL f).take i) = false := by
  have h13 := (he_13 f.id f.ext f.rem f.dlc (obL f.data ++ biV (suV (preL f)))).1
  rw [← boL_split] at h13
  unfold hdK
  rw [List.length_take, boL_length]
  by_cases h1 : i < 19
  · have : decide (19 ≤ min i (heN f.ext + 8 * f.data.length + 15)) = false := by simp; omega
    rw [this]; rfl
  · have hx : ((boL f).take i)[13]? = some f.ext := by rw [List.getElem?_take, if_pos (by omega)]; exact h13
    rw [hx]
    cases he : f.ext
    · rw [he] at hi; simp [heN] at hi; omega
    · rw [he] at hi; simp [heN] at hi ⊢; omega

theorem bo_from (f : Fr) (h : Good f) (more : List Bool) : (boL f).take (heN f.ext) ++ more = heL f.id f.ext f.rem f.dlc ++ more := by
  rw [boL_split, ← heL_length f.id f.ext f.rem f.dlc, List.take_left]

theorem hd_take {l : List Bool} {k : Nat} (hk : k ≤ l.length) (h : hdK (l.take k) = true) : hdN (l.take k) = hdN l := by
  unfold hdK at h
  simp only [Bool.and_eq_true, decide_eq_true_eq, Bool.or_eq_true, Bool.not_eq_true', List.length_take] at h
  obtain ⟨h1, h2⟩ := h
  have g : ∀ i, i < k → (l.take k)[i]? = l[i]? := fun i hi => by rw [List.getElem?_take, if_pos hi]
  have d : ∀ i j, i + j ≤ k → ((l.take k).drop i).take j = (l.drop i).take j := fun i j hij => by
    rw [List.drop_take, List.take_take, Nat.min_eq_left (by omega)]
  rw [g 13 (by omega)] at h2
  unfold hdN heM reF
  rw [g 13 (by omega)]
  cases hx : l[13]?.getD false
  · simp only [Bool.false_eq_true, if_false]
    rw [g 12 (by omega), d 15 4 (by omega)]
  · rw [hx] at h2
    simp at h2
    simp only [if_true]
    rw [g 32 (by omega), d 35 4 (by omega)]

theorem hd_more {l m : List Bool} (h : hdK l = true) : hdN (l ++ m) = hdN l := by
  have e : (l ++ m).take l.length = l := List.take_left
  have := hd_take (l := l ++ m) (k := l.length) (by simp) (by rw [e]; exact h)
  rw [e] at this
  exact this.symm

/-- A body that is cut is none. -/
theorem pa_short (f : Fr) (h : Good f) (k : Nat) (hk : k < (boL f).length) : paK ((boL f).take k) = false := by
  obtain ⟨_, _, _, _, h5⟩ := bo_all f h
  unfold paK
  by_cases hd : hdK ((boL f).take k) = true
  · have := hd_take (Nat.le_of_lt hk) hd
    rw [hd, this, h5, List.length_take, Nat.min_eq_left (Nat.le_of_lt hk)]
    simp; omega
  · simp only [Bool.not_eq_true] at hd
    rw [hd]; rfl

theorem hdK_more {l m : List Bool} (h : hdK l = true) : hdK (l ++ m) = true := by
  unfold hdK at h ⊢
  simp only [Bool.and_eq_true, decide_eq_true_eq, Bool.or_eq_true, Bool.not_eq_true'] at h ⊢
  have g : (l ++ m)[13]? = l[13]? := List.getElem?_append_left (by omega)
  rw [g, List.length_append]
  exact ⟨by omega, h.2.imp id (by omega)⟩

/-- So is one with bits more. -/
theorem pa_long (f : Fr) (h : Good f) (m : List Bool) : paK (boL f ++ m) = decide (m.length = 0) := by
  obtain ⟨h1, _, _, _, h5⟩ := bo_all f h
  obtain ⟨h2, h3, h4⟩ := paK_parts h1
  have hg : (boL f ++ m)[0]? = some false := by rw [List.getElem?_append_left (by have := hdN_le (boL f); omega)]; exact h3
  unfold paK
  rw [hdK_more h2, hg, hd_more h2, h5, List.length_append, Bool.eq_iff_iff]
  simp

theorem pa_start (l : List Bool) (h : l[0]? = some true) : paK l = false := by unfold paK; rw [h]; simp
end Go.Proofs.YtgpmhmdofefdcaaGreat
