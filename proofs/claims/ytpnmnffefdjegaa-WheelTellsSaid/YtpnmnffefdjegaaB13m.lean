/-
  The document's own timers (jackstayref13.State, by value): Tick.
-/
import Derived.Test.YtpnmnffefdjegaaB13l
namespace Go.Proofs.Ytpnmnffefdjegaa
open Go.RowKit Go.Maps Go.Sort
set_option linter.unusedVariables false

/-- What Tick of a State answers. -/
def StT (w : World) (a0 : Option Addr) (m : Wh) (e : Ending) (w' : World) : Prop :=
  ∃ a c ao co t, e = .returned (.tuple #[.agg (stW (m.now + 1) m.most a (tickW m).L.length c), .slice ao t.length co]) ∧ RK enT 2 w' a (tickW m).L.length c (tickW m).L ∧ (∀ q, a = some q → (a0 = some q ∨ w.heap.size ≤ q.block) ∧ q.block < w'.heap.size) ∧
    OL iv 3 w.heap.size w' ao t.length co t ∧ Told m t ∧ t.length ≤ 1024 ∧ Below w.heap.size w w'

section
variable {w w1 w6 w' : World} {a a6 : Option Addr} {n c n6 c6 r : Nat} {L L6 : List Tm} {id now most after : Int} {m : Wh} {o : List Int} {J : Nat}

/-- The numbers below J that are due then. -/
structure UpTo (m : Wh) (J : Nat) (o : List Int) : Prop where
  up : o.Pairwise (· < ·)
  lt : ∀ i ∈ o, i < (J : Int)
  has : ∀ i, i ∈ o ↔ (i < (J : Int) ∧ (i, m.now + 1) ∈ m.L)
theorem UpTo.zero (hI : WhI m) : UpTo m 0 [] := ⟨List.Pairwise.nil, fun i hi => (by cases hi), fun i => ⟨fun h => (by cases h), fun h => by have := (hI.rng _ h.2).1; have := h.1; dsimp only at *; omega⟩⟩
theorem UpTo.skip (h : UpTo m J o) (hn : ((J : Int), m.now + 1) ∉ m.L) : UpTo m (J + 1) o :=
  ⟨h.up, fun i hi => by have := h.lt i hi; omega, fun i => by
    rw [h.has]
    constructor
    · rintro ⟨h1, h2⟩; exact ⟨by omega, h2⟩
    · rintro ⟨h1, h2⟩
      refine ⟨?_, h2⟩
      by_cases e : i = (J : Int)
      · exact absurd (e ▸ h2) hn
      · push_cast at h1; omega⟩
theorem UpTo.add (h : UpTo m J o) (hn : ((J : Int), m.now + 1) ∈ m.L) : UpTo m (J + 1) (o ++ [(J : Int)]) := by
  refine ⟨?_, fun i hi => ?_, fun i => ?_⟩
  · rw [List.pairwise_append]
    exact ⟨h.up, by simp, fun a ha b hb => by simp at hb; subst hb; exact h.lt a ha⟩
  · rcases List.mem_append.1 hi with hi | hi
    · have := h.lt i hi; omega
    · simp at hi; omega
  · rw [List.mem_append, h.has]
    constructor
    · rintro (⟨h1, h2⟩ | h1)
      · exact ⟨by omega, h2⟩
      · simp at h1; subst h1; exact ⟨by push_cast; omega, hn⟩
    · rintro ⟨h1, h2⟩
      by_cases e : i = (J : Int)
      · right; simp [e]
      · left; exact ⟨by push_cast at h1; omega, h2⟩
theorem UpTo.told (h : UpTo m 1024 o) (hI : WhI m) : Told m o := ⟨h.up, fun i => by
  rw [h.has]
  exact ⟨fun h => h.2, fun h2 => ⟨by have := (hI.rng _ h2).2.1; dsimp only at this; omega, h2⟩⟩⟩
theorem due_now_iff (hI : WhI m) (hh : hasL m.L id = true) : (leftW ⟨m.now + 1, m.most, m.L⟩ id = 0) ↔ (id, m.now + 1) ∈ m.L := by
  have h1 := mem_due hh
  unfold leftW
  simp only [hh, if_true]
  constructor
  · intro e
    have : dueL m.L id = m.now + 1 := by omega
    rwa [this] at h1
  · intro h2
    have := pair_eq hI.key h1 h2 rfl
    simp only [Prod.mk.injEq, true_and] at this
    omega

set_option maxRecDepth 100000 in
set_option maxHeartbeats 8000000 in
theorem rTick_any (w : World) (hI : WhI m) (hnow : m.now ≤ 1000000000) (h : RK enT 2 w a m.L.length c m.L) (hlt : ∀ q, a = some q → q.block < w.heap.size) :
    Calls Try.prog 15 #[.agg (stW m.now m.most a m.L.length c)] w (StT w a m) := by
  have hn : m.L.length ≤ 1024 := by have := hI.len; have := hI.most; omega
  have hn0 := hI.n0
  obtain ⟨r, w1, hw1, HR, b1, r1, g1, hr0, hr1⟩ := st_boxes13 w (stW m.now m.most a m.L.length c)
  obtain ⟨x0, x1, x2⟩ := bx3o b1
  have f1 := bx_thaw b1 0
  have b2 : (w1.setCell ⟨w.heap.size, 0, none⟩ (.int .i64 (m.now + 1))).heap[w.heap.size]? = some (.cells (stW (m.now + 1) m.most a m.L.length c) 30 (0, 0)) := by rw [heap_setCell_same w1 w.heap.size 0 _ _ _ b1]; rfl
  have r2 : (w1.setCell ⟨w.heap.size, 0, none⟩ (.int .i64 (m.now + 1))).heap[r]? = some (.cells stZ13 30 (0, 0)) := (Below.heap_setCell _ _ _ _ (Nat.ne_of_gt hr0)).trans r1
  have g2 : Below w.heap.size w (w1.setCell ⟨w.heap.size, 0, none⟩ (.int .i64 (m.now + 1))) := g1.setCell (Nat.le_refl _) _
  have z2 : r < (w1.setCell ⟨w.heap.size, 0, none⟩ (.int .i64 (m.now + 1))).heap.size := by rw [sz_set]; exact hr1
  go_enter Try.func15, Try.ntmps15
  go_wp2_with (rw [hw1.out, HR.out])
  clear x0 x1 x2 f1 hw1 HR b1 r1 g1 hr1
  generalize w1.setCell ⟨w.heap.size, 0, none⟩ (.int .i64 (m.now + 1)) = w2 at *
  go_loopg [4, 5] 1024 (fun gn v4 vi wr => ∃ (J n4 : Nat) (a4 : Option Addr) (c4 : Nat) (o : List Int), J ≤ 1024 ∧ gn = 1024 - J ∧ vi = .int .i64 (J : Int) ∧ v4 = .slice a4 n4 c4 ∧ n4 ≤ J ∧ OL iv 3 w2.heap.size wr a4 n4 c4 o ∧ UpTo m J o ∧ Below w2.heap.size w2 wr)
  case atStart => exact ⟨0, 0, none, 0, [], by omega, by omega, rfl, rfl, by omega, OL.nil _ _ _ _, UpTo.zero hI, Below.refl _ _⟩
  case round =>
    obtain ⟨J, n4, a4, c4, o, hJ, rfl, rfl, rfl, hn4, o4, hU, hb⟩ := hrel
    have b3 := bx_below b2 hb
    have hsz := hb.size
    by_cases hJl : J < 1024
    · have kL := rLeft_any (id := (J : Int)) (now := m.now + 1) (most := m.most) wr (h.below (bstep g2 hb)) (by omega) (by omega) (by omega) (fun p hp => by have := hI.rng p hp; omega)
      by_cases hin : ((J : Int), m.now + 1) ∈ m.L
      · have hh : hasL m.L (J : Int) = true := hasL_iff.2 (List.mem_map_of_mem (f := fun p : Tm => p.1) hin)
        rw [(due_now_iff hI hh).2 hin, hh] at kL
        have HIN := hid hin
        clear hin hh
        go_wp2_with (first
          | (with_reducible refine wpList_loadR rowSt rfl _ rfl _ rfl b3 rfl ?_)
          | (go_at_call 19; (with_reducible refine kL.mono ?_); rintro e w4 ⟨rfl, g4⟩
             have o5 := o4.below g4
             have hz := g4.size)
          | (with_reducible refine wpList_app tI rfl _ _ rfl rfl (o5.alloc _) rfl (lit1I w4 (J : Int)) (fun _ => rfl) (by omega) (by omega) (by rw [heap_size_alloc]; omega) ?_
             intro w7 a7 c7 o7 g7))
        go_roundg (1024 - (J + 1))
        case measure => omega
        case rel => exact ⟨J + 1, n4 + 1, a7, c7, _, by omega, rfl, by go_num, rfl, by omega, o7, hU.add HIN.out, (bnew (bstep hb g4) _).trans g7⟩
      · cases hh : hasL m.L (J : Int)
        · rw [hh] at kL
          have HIN := hid hin
          clear hin
          generalize leftW ⟨m.now + 1, m.most, m.L⟩ (J : Int) = lv at *
          go_wp2_with (first
            | (with_reducible refine wpList_loadR rowSt rfl _ rfl _ rfl b3 rfl ?_)
            | (go_at_call 19; (with_reducible refine kL.mono ?_); rintro e w4 ⟨rfl, g4⟩
               have o5 := o4.below g4))
          go_roundg (1024 - (J + 1))
          case measure => omega
          case rel => exact ⟨J + 1, n4, a4, c4, _, by omega, rfl, by go_num, rfl, by omega, o5, hU.skip HIN.out, bstep hb g4⟩
        · rw [hh] at kL
          have hne := fun e => hin ((due_now_iff hI hh).1 e)
          generalize leftW ⟨m.now + 1, m.most, m.L⟩ (J : Int) = lv at *
          have hl0 : (lv == 0) = false := by rw [beq_eq_false_iff_ne]; exact hne
          have HIN := hid hin
          clear hin hne
          go_wp2_with (first
            | (with_reducible refine wpList_loadR rowSt rfl _ rfl _ rfl b3 rfl ?_)
            | (go_at_call 19; (with_reducible refine kL.mono ?_); rintro e w4 ⟨rfl, g4⟩
               have o5 := o4.below g4))
          go_roundg (1024 - (J + 1))
          case measure => omega
          case rel => exact ⟨J + 1, n4, a4, c4, _, by omega, rfl, by go_num, rfl, by omega, o5, hU.skip HIN.out, bstep hb g4⟩
    · obtain rfl : J = 1024 := by omega
      have hTo := hU.told hI
      have r3 := bx_below r2 hb
      have g3 := bstep g2 hb
      have h3 := h.below g3
      have hz3 : r < wr.heap.size := by omega
      have hloc : ∀ q, a = some q → (a = some q ∨ w2.heap.size ≤ q.block) ∧ q.block < wr.heap.size := fun q hq => ⟨.inl hq, by have := hlt q hq; have := g3.size; omega⟩
      have HH := hid hU
      have hkey := hI.key
      have HRN := hid hI.rng
      go_wp2
      clear h r2 hb hU b2
      go_loopg [8] n4 (fun gn vi wr => ∃ (k : Nat) (a' : Option Addr) (c' N1 : Nat) (L' : List Tm), k ≤ n4 ∧ gn = n4 - k ∧ vi = .int .i64 (k : Int) ∧ L' = rmL m.L (o.take k) ∧ N1 ≤ 1024 ∧ wr.heap[w.heap.size]? = some (.cells (stW (m.now + 1) m.most a' N1 c') 30 (0, 0)) ∧ RK enT 2 wr a' N1 c' L' ∧
          (∀ q, a' = some q → (a = some q ∨ w2.heap.size ≤ q.block) ∧ q.block < wr.heap.size) ∧ OL iv 3 w2.heap.size wr a4 n4 c4 o ∧ wr.heap[r]? = some (.cells stZ13 30 (0, 0)) ∧ Below w.heap.size w wr ∧ w2.heap.size ≤ wr.heap.size)
      case atStart => exact ⟨0, a, c, _, m.L, by omega, by omega, rfl, by rw [List.take_zero, rm_nil], hn, b3, h3, hloc, o4, r3, g3, hsz⟩
      case round =>
        clear b3 h3 hloc o4 r3 g3 hsz hz3
        obtain ⟨k, a', c', N1, L', hk, rfl, rfl, hL', hN1, b3, h3, hloc, o4, r3, g3, hsz⟩ := hrel
        by_cases hkl : k < n4
        · obtain ⟨bz, oz, z, ha4, ez, cz⟩ := o4.rl.at hkl
          subst ha4
          simp only [iv] at cz
          have htake : o.take (k + 1) = o.take k ++ [z] := by rw [List.take_add_one, ez]; rfl
          have hL2 : rmL m.L (o.take (k + 1)) = outL L' z := by rw [htake, rm_snoc, hL']
          have HL2 := hid hL2
          have hN := h3.len
          have hlen2 : (outL L' z).length ≤ 1024 := by have := out_le (L := L') (id := z); omega
          have HL' := hid hL'
          have HZ := hid hlen2
          clear htake hL2 ez hL' hlen2
          have hd : Below wr.heap.size wr wr.drew := (Below.refl _ _).drew
          have kC0 := fun (hh : RK enT 2 wr.drew a' L'.length c' L') => rCancel_any (id := z) (m := ⟨m.now + 1, m.most, L'⟩) wr.drew hh (by dsimp only; omega)
          rw [← hN] at h3
          have kC := kC0 (h3.below hd)
          simp only [hN] at kC
          rw [hN] at h3
          clear kC0
          have kC : Calls Try.prog 13 #[.agg (stW (m.now + 1) m.most a' N1 c'), .int .i64 z] wr.drew fun e w' => ∃ a5 c5, e = .returned (.tuple #[.agg (stW (m.now + 1) m.most a5 (outL L' z).length c5), .bool (hasL L' z)]) ∧ RK enT 2 w' a5 (outL L' z).length c5 (outL L' z) ∧ (∀ q, a5 = some q → (a' = some q ∨ wr.drew.heap.size ≤ q.block) ∧ q.block < w'.heap.size) ∧ Below wr.drew.heap.size wr.drew w' := kC.mono (fun e w' hx => hx)
          go_wp2
          have HS : wr.drew.heap[w.heap.size]? = some (.cells (stW (m.now + 1) m.most a' N1 c') 30 (0, 0)) ∧ wr.drew.cell? ⟨bz, oz + k, none⟩ = some (.int .i64 z) := ⟨b3, cz⟩
          refine Rest.begin (S := fun w' => w'.heap[w.heap.size]? = some (.cells (stW (m.now + 1) m.most a' N1 c') 30 (0, 0)) ∧ w'.cell? ⟨bz, oz + k, none⟩ = some (.int .i64 z)) (X := [5]) (by kernel_rfl) ?_
          change Rest _ _ _ _ _ _ _ _ _ wr.drew
          refine Rest.take (i := 1) (v := .slice (some ⟨bz, oz, none⟩) n4 c4) rfl (by kernel_rfl) (by kernel_rfl) (by kernel_rfl) (by kernel_rfl) (fun _ _ _ h => h) (.inl HS) (Or.inl ⟨by simp [Region.wanted], ?_⟩) ?_
          · intro w; go_simp
          refine Rest.take (i := 2) (v := .int .i64 (k : Int)) rfl (by kernel_rfl) (by kernel_rfl) (by kernel_rfl) (by kernel_rfl) (fun _ _ _ h => h) (.inl HS) (Or.inl ⟨by simp [Region.wanted], ?_⟩) ?_
          · intro w; go_simp
          refine Rest.take (i := 3) (v := .pointer (some ⟨bz, oz + k, none⟩)) rfl (by kernel_rfl) (by kernel_rfl) (by kernel_rfl) (by kernel_rfl) (fun _ _ _ h => h) (.inl HS) (Or.inl ⟨by simp [Region.wanted], ?_⟩) ?_
          · intro w; go_simp
          refine Rest.takeS (i := 0) (v := .agg (stW (m.now + 1) m.most a' N1 c')) rfl (by kernel_rfl) (by kernel_rfl) (by kernel_rfl) (by kernel_rfl) (fun _ _ _ h => h) HS (yields_loadR rowSt (by simp [Region.wanted]) _ rfl w.heap.size (by simp [Act.eval, Act.put]) _ rfl (fun w' hw => ⟨_, _, hw.1⟩)) ?_
          refine Rest.takeS (i := 4) (v := .int .i64 z) rfl (by kernel_rfl) (by kernel_rfl) (by kernel_rfl) (by kernel_rfl) (fun _ _ _ h => h) HS (.inl ⟨by simp [Region.wanted], ?_⟩) ?_
          · intro w0 hw; have hx : w0.cell? ⟨bz, oz + k, none⟩ = some (.int .i64 z) := hw.2; go_simp
          refine Rest.one (i := 5) (by kernel_rfl) rfl (fun K hK => ?_)
          refine draw_callF 13 (by kernel_rfl) (by simp [Region.wanted]) _ _ _ rfl (by simp [Act.eval]) #[.agg (stW (m.now + 1) m.most a' N1 c'), .int .i64 z] (by simp [Act.eval, Act.put]) _ kC ?_
          rintro e w5 ⟨a5, c5, rfl, h5, l5, g5⟩
          refine ⟨_, rfl, ?_⟩
          refine hK _ _ ⟨.inr (thru_of (by kernel_rfl)), Rest.of_any _ _ _ _ (thru_of (by kernel_rfl)) ?_⟩; clear hK K
          refine wpAny_take (i := 6) (v := .tuple #[.agg (stW (m.now + 1) m.most a5 (outL L' z).length c5), .bool (hasL L' z)]) rfl (by kernel_rfl) (by kernel_rfl) (by kernel_rfl) (fun _ _ _ h => h) (Or.inl ⟨by simp [Region.wanted], ?_⟩) ?_
          · intro w; go_simp
          refine wpAny_take (i := 7) (v := .agg (stW (m.now + 1) m.most a5 (outL L' z).length c5)) rfl (by kernel_rfl) (by kernel_rfl) (by kernel_rfl) (fun _ _ _ h => h) (Or.inl ⟨by simp [Region.wanted], ?_⟩) ?_
          · intro w; go_simp
          refine wpAny_take (i := 8) (v := .bool (hasL L' z)) rfl (by kernel_rfl) (by kernel_rfl) (by kernel_rfl) (fun _ _ _ h => h) (Or.inl ⟨by simp [Region.wanted], ?_⟩) ?_
          · intro w; go_simp
          have b5 := bx_below (w := wr.drew) b3 g5
          have r5 := bx_below (w := wr.drew) r3 g5
          refine wpAny_ready (rs := [9]) (by kernel_rfl) (by simp) ?_
          refine AllReady.cons rfl (fun K hK => ?_) AllReady.nil
          with_reducible refine draw_storeR rowSt ?zg (.tmp 1) (.tmp 45) ?zo w.heap.size (stW (m.now + 1) m.most a5 (outL L' z).length c5) ?zx ?zy b5 ?zn ?zl (st_ones13 _ _ _ _ _) ?zK
          case zg => rfl
          case zo => rfl
          case zx => simp [Act.eval, Act.put]
          case zy => simp [Act.eval, Act.put]
          case zn => rfl
          case zl => rfl
          refine hK _ _ ?_; clear hK K
          have hd5 : Below wr.heap.size wr w5 := hd.trans g5
          have b6 : (w5.setRow w.heap.size (stW (m.now + 1) m.most a5 (outL L' z).length c5)).heap[w.heap.size]? = some (.cells (stW (m.now + 1) m.most a5 (outL L' z).length c5) 30 (0, 0)) := setRow_heap _ _ _ _ _ _ b5
          have kS : Ch (fun b => b = w.heap.size) w5 (w5.setRow w.heap.size (stW (m.now + 1) m.most a5 (outL L' z).length c5)) := Ch.setRow (S := fun b => b = w.heap.size) (Ch.refl _ _) (.inl rfl) _
          have w2w := g2.size
          have l6 : ∀ q, a5 = some q → (a = some q ∨ w2.heap.size ≤ q.block) ∧ q.block < (w5.setRow w.heap.size (stW (m.now + 1) m.most a5 (outL L' z).length c5)).heap.size := fun q hq => by
            refine ⟨?_, by have := (l5 q hq).2; have := kS.size; omega⟩
            rcases (l5 q hq).1 with e | e
            · exact (hloc q e).1
            · exact .inr (Nat.le_trans hsz e)
          have h6 : RK enT 2 (w5.setRow w.heap.size (stW (m.now + 1) m.most a5 (outL L' z).length c5)) a5 (outL L' z).length c5 (outL L' z) := h5.ch kS (fun q hq e => by
            rcases (l6 q hq).1 with e2 | e2
            · have := hlt q e2; omega
            · omega)
          have o6 := (o4.below hd5).ch kS (fun q hq e => by have := (o4.ltB hq).2; omega)
          have r6 : (w5.setRow w.heap.size (stW (m.now + 1) m.most a5 (outL L' z).length c5)).heap[r]? = some (.cells stZ13 30 (0, 0)) := (setRow_other _ _ _ _ (Nat.ne_of_gt hr0)).trans r5
          have g6 : Below w.heap.size w (w5.setRow w.heap.size (stW (m.now + 1) m.most a5 (outL L' z).length c5)) := below_setRow (bstep g3 hd5) (Nat.le_refl _) _
          have z6 : w2.heap.size ≤ (w5.setRow w.heap.size (stW (m.now + 1) m.most a5 (outL L' z).length c5)).heap.size := by have := hd5.size; have := kS.size; omega
          refine wpAny_done (by kernel_rfl) ?_ _
          clear HS b5 r5 b3 r3 h5 l5 g5 hd kC h3 hloc o4 g3 hsz hd5
          generalize w5.setRow w.heap.size (stW (m.now + 1) m.most a5 (outL L' z).length c5) = w7 at *
          simp [Act.put]
          go_wp2
          go_roundg (n4 - (k + 1))
          case measure => omega
          case rel => exact ⟨k + 1, a5, c5, _, outL L' z, by omega, rfl, by go_num, HL2.out.symm, HZ.out, b6, h6, l6, o6, r6, g6, z6⟩
        · obtain rfl : k = n4 := by omega
          have hol := o4.len
          rw [List.take_of_length_le (by omega), rm_all hkey hTo] at hL'
          have hN := h3.len
          have hlt2 : ∀ q, a' = some q → q.block ≠ r := fun q hq e => by
            rcases (hloc q hq).1 with e2 | e2
            · have := hlt q e2; omega
            · omega
          have kR : Ch (fun b => b = r) wr (wr.setRow r (stW (m.now + 1) m.most a' N1 c')) := Ch.setRow (S := fun b => b = r) (Ch.refl _ _) (.inl rfl) _
          have w2w := g2.size
          have fin : StT w a m (.returned (.tuple #[.agg (stW (m.now + 1) m.most a' N1 c'), .slice a4 k c4])) (wr.setRow r (stW (m.now + 1) m.most a' N1 c')) := by
            refine ⟨a', c', a4, c4, o, by rw [← hL', hN, hol], ?_, fun q hq => ?_, ?_, hTo, by rw [hol]; omega, kR.below g3 (Nat.le_refl _) (fun b e => by omega)⟩
            · rw [← hL', hN]; exact h3.ch kR hlt2
            · refine ⟨?_, by have := (hloc q hq).2; have := kR.size; omega⟩
              rcases (hloc q hq).1 with e2 | e2
              · exact .inl e2
              · exact .inr (by omega)
            · rw [hol]; exact (o4.ch kR (fun q hq e => by have := (o4.ltB hq).2; omega)).mono (by omega)
          go_wp2_with (first
            | (with_reducible refine wpList_loadR rowSt rfl _ rfl _ rfl b3 rfl ?_)
            | (with_reducible refine wpList_storeR rowSt rfl _ _ rfl _ _ rfl rfl r3 rfl rfl (st_ones13 _ _ _ _ _) ?_))
          exact bodyPost_ret (v := .tuple #[.agg (stW (m.now + 1) m.most a' N1 c'), .slice a4 k c4]) (results_row1 rowSt rfl _ _ _ rfl rfl (setRow_heap _ _ _ _ _ _ r3) rfl) rfl fin
end
end Go.Proofs.Ytpnmnffefdjegaa
