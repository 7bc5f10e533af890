/-
  Contracts of Before (the program's and the document's).
-/
import Derived.Test.YtcgpdldccfpjgaaB4e
import Derived.WalkSmall
namespace Go.Proofs.Ytcgpdldccfpjgaa
open Go.RowKit Go.Sort
set_option linter.unusedVariables false

/-- Whether the first row wins against the second one. -/
def bfL : List Bool → List Bool → Bool
  | x :: l, y :: m => if x = y then bfL l m else y
  | _, _ => false

theorem bfL_step {l m : List Bool} {k : Nat} {x : Bool} (h1 : l[k]? = some x) (h2 : m[k]? = some x) : bfL (l.drop (k + 1)) (m.drop (k + 1)) = bfL (l.drop k) (m.drop k) := by
  rw [drop_at h1, drop_at h2]; simp [bfL]

theorem bfL_stop {l m : List Bool} {k : Nat} {x y : Bool} (h1 : l[k]? = some x) (h2 : m[k]? = some y) (h : x ≠ y) : bfL (l.drop k) (m.drop k) = y := by
  rw [drop_at h1, drop_at h2]; simp [bfL, h]

theorem bfL_end {l m : List Bool} {k : Nat} (h : l.length ≤ k ∨ m.length ≤ k) : bfL (l.drop k) (m.drop k) = false := by
  rcases h with h | h
  · rw [List.drop_eq_nil_of_le h]; simp [bfL]
  · rw [List.drop_eq_nil_of_le h]; cases l.drop k <;> simp [bfL]

theorem boxed2 (w : World) (E : TypeId) (u v : Array Value) : ∃ w0, Hid ((w.alloc (.cells u E)).alloc (.cells v E) = w0) ∧ w0.heap[w.heap.size]? = some (.cells u E (0, 0)) ∧ w0.heap[w.heap.size + 1]? = some (.cells v E (0, 0)) ∧ Below w.heap.size w w0 := by
  obtain ⟨h1, h2, h3⟩ := two_bx (w := w) (E := E) (F := E) (u := u) (v := v) (Below.refl _ _)
  exact ⟨_, rfl, h1, h2, h3⟩

theorem held10 {w0 w' : World} {g g' : Nat} {E : TypeId} {v0 v1 v2 v3 v4 u0 u1 u2 u3 u4 : Value} (h : w0.heap[g]? = some (.cells #[v0, v1, v2, v3, v4] E (0, 0))) (h' : w0.heap[g']? = some (.cells #[u0, u1, u2, u3, u4] E (0, 0))) (hb : Below w0.heap.size w0 w') :
    w'.cell? ⟨g, 0, none⟩ = some v0 ∧ w'.cell? ⟨g, 1, none⟩ = some v1 ∧ w'.cell? ⟨g, 2, none⟩ = some v2 ∧ w'.cell? ⟨g, 3, none⟩ = some v3 ∧ w'.cell? ⟨g, 4, none⟩ = some v4 ∧
    w'.cell? ⟨g', 0, none⟩ = some u0 ∧ w'.cell? ⟨g', 1, none⟩ = some u1 ∧ w'.cell? ⟨g', 2, none⟩ = some u2 ∧ w'.cell? ⟨g', 3, none⟩ = some u3 ∧ w'.cell? ⟨g', 4, none⟩ = some u4 ∧ Below w0.heap.size w0 w' := by
  obtain ⟨k0, k1, k2, k3, k4⟩ := bx5 (bx_below h hb)
  obtain ⟨q0, q1, q2, q3, q4⟩ := bx5 (bx_below h' hb)
  exact ⟨k0, k1, k2, k3, k4, q0, q1, q2, q3, q4, hb⟩

theorem before_any (w : World) (id : Nat) (ext rem : Bool) (dlc : Nat) (a : Option Addr) (n c : Nat) (id2 : Nat) (ext2 rem2 : Bool) (dlc2 : Nat) (a2 : Option Addr) (n2 c2 : Nat) (hi : id < 4294967296) (hd : dlc < 256) (hi2 : id2 < 4294967296) (hd2 : dlc2 < 256) :
    Calls Try.prog 17 #[.agg #[.int .u32 (id : Int), .bool ext, .bool rem, .int .u8 (dlc : Int), .slice a n c], .agg #[.int .u32 (id2 : Int), .bool ext2, .bool rem2, .int .u8 (dlc2 : Int), .slice a2 n2 c2]] w
      fun e w' => e = .returned (.bool (riF id ext rem dlc n && riF id2 ext2 rem2 dlc2 n2 && bfL (conL id ext rem) (conL id2 ext2 rem2))) ∧ Below w.heap.size w w' := by
  obtain ⟨w0, hw0, hbx, hby, gg0⟩ := boxed2 w 25 #[.int .u32 (id : Int), .bool ext, .bool rem, .int .u8 (dlc : Int), .slice a n c] #[.int .u32 (id2 : Int), .bool ext2, .bool rem2, .int .u8 (dlc2 : Int), .slice a2 n2 c2]
  have hr1 := fun w0 => frRight_any w0 id ext rem dlc a n c hi hd
  have hr2 := fun w0 => frRight_any w0 id2 ext2 rem2 dlc2 a2 n2 c2 hi2 hd2
  cases hA : riF id ext rem dlc n
  · rw [hA] at hr1
    go_enter Try.func17, Try.ntmps17
    go_wp2_with (first
      | (go_at_call 13; rw [hw0.out]; (with_reducible refine (hr1 w0).mono ?_); rintro e w1 ⟨rfl, g1⟩))
    go_ret
    exact ⟨rfl, bstep gg0 g1⟩
  rw [hA] at hr1
  cases hB : riF id2 ext2 rem2 dlc2 n2
  · rw [hB] at hr2
    go_enter Try.func17, Try.ntmps17
    go_wp2_with (first
      | (go_at_call 13; rw [hw0.out]; (with_reducible refine (hr1 w0).mono ?_); rintro e w1 ⟨rfl, g1⟩; obtain ⟨q0, q1, q2, q3, q4⟩ := bx5 (bx_below hby g1))
      | (go_at_call 13; (with_reducible refine (hr2 w1).mono ?_); rintro e w2 ⟨rfl, g2⟩))
    go_ret
    exact ⟨rfl, bstep (bstep gg0 g1) g2⟩
  rw [hB] at hr2
  have hc1 := fun w0 => contest_any w0 id ext rem dlc a n c hi
  have hc2 := fun w0 => contest_any w0 id2 ext2 rem2 dlc2 a2 n2 c2 hi2
  have hlen1 := conL_length id ext rem
  have hlen2 := conL_length id2 ext2 rem2
  obtain ⟨N1, hN1⟩ : ∃ N1, N1 = conN ext := ⟨_, rfl⟩
  obtain ⟨N2, hN2⟩ : ∃ N2, N2 = conN ext2 := ⟨_, rfl⟩
  obtain ⟨l1, hl1⟩ : ∃ l1, l1 = conL id ext rem := ⟨_, rfl⟩
  obtain ⟨l2, hl2⟩ : ∃ l2, l2 = conL id2 ext2 rem2 := ⟨_, rfl⟩
  simp only [← hN1, ← hl1] at hc1 hlen1
  simp only [← hN2, ← hl2] at hc2 hlen2
  rw [← hl1, ← hl2]
  have hN : N1 ≤ 33 ∧ N2 ≤ 33 := by rw [hN1, hN2]; unfold conN; constructor <;> split <;> omega
  clear hN1 hN2 hl1 hl2 hA hB
  obtain ⟨p, hp⟩ : ∃ p, p = min N1 N2 := ⟨_, rfl⟩
  have hp2 : p ≤ N1 ∧ p ≤ N2 ∧ (N1 ≤ p ∨ N2 ≤ p) := by omega
  have hmin : ∀ (ts : Array TypeId) (t : TypeId) (w' : World), (Builtin.min_ ts t #[.int .i64 (N1 : Int), .int .i64 (N2 : Int)]).run Try.prog w' = .ok (.int .i64 (p : Int)) w' := fun ts t w' => by
    rw [run_min_int2]; congr 2; split <;> omega
  clear hp
  obtain ⟨bt, hbt⟩ : ∃ bt, bt = bfL l1 l2 := ⟨_, rfl⟩
  rw [← hbt]
  simp only [Bool.true_and]
  go_enter Try.func17, Try.ntmps17
  go_wp2_with (first
    | (go_at_call 13; rw [hw0.out]; (with_reducible refine (hr1 w0).mono ?_); rintro e w1 ⟨rfl, g1⟩; obtain ⟨q0, q1, q2, q3, q4⟩ := bx5 (bx_below hby g1))
    | (go_at_call 13; (with_reducible refine (hr2 w1).mono ?_); rintro e w2 ⟨rfl, g2⟩; have hbx2 := bx_below (bx_below hbx g1) g2; have hby2 := bx_below (bx_below hby g1) g2; have gg2 := bstep (bstep gg0 g1) g2))
  clear q0 q1 q2 q3 q4
  have hd1 : Below w2.heap.size w2 w2.drew := (Below.refl _ _).drew
  go_region_held3 (fun w' => w'.cell? ⟨w.heap.size, 0, none⟩ = some (.int .u32 (id : Int)) ∧ w'.cell? ⟨w.heap.size, 1, none⟩ = some (.bool ext) ∧ w'.cell? ⟨w.heap.size, 2, none⟩ = some (.bool rem) ∧ w'.cell? ⟨w.heap.size, 3, none⟩ = some (.int .u8 (dlc : Int)) ∧ w'.cell? ⟨w.heap.size, 4, none⟩ = some (.slice a n c) ∧
      w'.cell? ⟨w.heap.size + 1, 0, none⟩ = some (.int .u32 (id2 : Int)) ∧ w'.cell? ⟨w.heap.size + 1, 1, none⟩ = some (.bool ext2) ∧ w'.cell? ⟨w.heap.size + 1, 2, none⟩ = some (.bool rem2) ∧ w'.cell? ⟨w.heap.size + 1, 3, none⟩ = some (.int .u8 (dlc2 : Int)) ∧ w'.cell? ⟨w.heap.size + 1, 4, none⟩ = some (.slice a2 n2 c2) ∧ Below w2.heap.size w2 w')
    (first
      | exact held10 hbx2 hby2 hd1
      | exact held10 hbx2 hby2 g15
      | exact held10 hbx2 hby2 g16)
    (first
      | (go_simp; go_at_call 32; (with_reducible refine Calls.mono (hc1 w2.drew) ?_); rintro e w5 ⟨a5, c5, rfl, hol5, g5⟩; have g15 : Below w2.heap.size w2 w5 := hd1.trans g5)
      | (go_simp; go_at_call 32; (with_reducible refine Calls.mono (hc2 w5) ?_); rintro e w6 ⟨a6, c6, rfl, hol6, g6⟩; have hol56 := (hol5.below g6).rl; have hr6 := hol6.rl; have g16 := bstep g15 g6))
  all_goals
    have gg6 := bstep gg2 g16
    clear hbx2 hby2 hc1 hc2 hr1 hr2 hbx hby hol5 hol6 g15 g16 hd1 gg2 gg0 g1 g2 g5 g6
    have HB := hid hbt; clear hbt
    go_wp2_with fail
    go_loopw [25] (fun i wr => ∃ k : Nat, k ≤ p ∧ i = .int .i64 (k : Int) ∧ bfL (l1.drop k) (l2.drop k) = bt ∧ Below w6.heap.size w6 wr) (fun i _ => p - (intOf i).toNat)
    case atStart => exact ⟨0, Nat.zero_le _, rfl, HB.out.symm, Below.refl _ _⟩
    case round =>
      obtain ⟨k, hk, rfl, hbf, hb⟩ := hrel
      have HF := hid hbf; clear hbf
      by_cases hlt : k < p
      · obtain ⟨b1, off1, x, rfl, hx, hck⟩ := (hol56.below hb).at (k := k) (by omega)
        obtain ⟨b2, off2, y, rfl, hy, hck2⟩ := (hr6.below hb).at (k := k) (by omega)
        have HX := hid hx; clear hx
        have HY := hid hy; clear hy
        have i1 : (k : Int) < (N1 : Int) := by omega
        have i2 : (k : Int) < (N2 : Int) := by omega
        by_cases hxy : x = y
        · subst hxy
          clear hmin
          go_wp2_with fail
          go_big_quiet (fail)
          go_wp2
          go_roundw
          case rel => exact ⟨k + 1, by omega, by go_num, (bfL_step HX.out HY.out).trans HF.out, below_drewN hb nq⟩
          case measure => simp [intOf]; omega
        · have hne : (x == y) = false := by simpa using hxy
          have HN : Hid (y = bt) := (bfL_stop HX.out HY.out hxy).symm.trans HF.out
          clear hxy hmin
          go_wp2_with fail
          go_big_quiet (fail)
          go_wp2
          go_ret
          exact ⟨ret_bool HN.out, bstep gg6 (below_drewN hb nq)⟩
      · obtain rfl : k = p := by omega
        have HE : Hid (bt = false) := HF.out.symm.trans (bfL_end (by rw [hlen1, hlen2]; exact hp2.2.2))
        clear hmin
        go_wp2
        go_ret
        exact ⟨ret_bool HE.out.symm, bstep gg6 hb⟩
end Go.Proofs.Ytcgpdldccfpjgaa
