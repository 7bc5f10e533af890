/-
  The walk of the statement TakeWhole: for any frame and either bit at the acknowledgement it returns true, and nothing that was there has changed.
-/
import Derived.Test.YthpgcgkgokfnpaaTakeTurnedWalk
namespace Go.Proofs.Ythpgcgkgokfnpaa
open Go.RowKit
set_option linter.unusedVariables false

/-- What is read of a wire, bit by bit. -/
structure Rd (L : List Bool) (P k : Nat) (s : Tk) : Prop where
  on : k < P + 10 → Reading L k s
  fin : k = P + 10 → Got L s ∧ s.p = 11
  ri : rightA s.b s.m
  p : s.p ≤ 11
  len : s.l.length ≤ k

theorem Rd.start (L : List Bool) (P : Nat) : Rd L P 0 s0 := ⟨fun _ => Reading.start L, fun h => by omega, ⟨by simp [s0], fun _ => rfl⟩, by simp [s0], by simp [s0]⟩

theorem ack_take {F : Fr} (ack : Bool) : ((wiL F).set ((putL (boL F)).length + 1) ack).take (putL (boL F)).length = putL (boL F) := by
  rw [List.take_set_of_le (by omega), wi_take]

theorem whole_step {F : Fr} (hg : Good F) {ack x : Bool} {k : Nat} {s : Tk} (hk : k < (putL (boL F)).length + 10) (h : Rd ((wiL F).set ((putL (boL F)).length + 1) ack) (putL (boL F)).length k s)
    (hx : ((wiL F).set ((putL (boL F)).length + 1) ack)[k]? = some x) :
    (nxT s x).2 = (if k = (putL (boL F)).length + 8 then 4 else if k = (putL (boL F)).length + 9 then 6 else 0) ∧ Rd ((wiL F).set ((putL (boL F)).length + 1) ack) (putL (boL F)).length (k + 1) (nxT s x).1 ∧
    drT s.p s.fi = !decide (k = (putL (boL F)).length + 1) := by
  have ht := ack_take (F := F) ack
  have hlen : ((wiL F).set ((putL (boL F)).length + 1) ack).length = (putL (boL F)).length + 10 := by rw [List.length_set, wiL_length]
  have wat := fun (j : Nat) (hj : j < 10) => wi_at (F := F) hj
  have hne : ∀ i, i ≠ (putL (boL F)).length + 1 → ((wiL F).set ((putL (boL F)).length + 1) ack)[i]? = (wiL F)[i]? := fun i hi => by rw [List.getElem?_set_ne (Ne.symm hi)]
  obtain ⟨L, hL⟩ : ∃ L, L = (wiL F).set ((putL (boL F)).length + 1) ack := ⟨_, rfl⟩
  rw [← hL] at ht hlen hne hx h ⊢
  clear hL
  have hR := h.on hk
  obtain ⟨e1, e2⟩ := hR.said hx
  obtain ⟨f1, f2, f3⟩ := wire_found hg ht (by omega)
  obtain ⟨P, hP⟩ : ∃ P, P = (putL (boL F)).length := ⟨_, rfl⟩
  have early := fun (i : Nat) (hi : i < P) => wire_early hg (l := L) ht (by omega) (i := i) (by rw [← hP]; exact hi)
  have late := fun (j : Nat) (y : Bool) (hy : L[P + j]? = some y) => wire_late hg (l := L) ht (by omega) (j := j) (x := y) (by rw [← hP]; exact hy)
  simp only [← hP] at ht hlen hne hx h wat f1 hk late ⊢
  have hP34 : P ≠ 0 := fun e => by
    have h1 := (putL_len (boL F)).1
    have h2 := boL_length F
    omega
  have hS : Sy L k = if k = P + 8 then 4 else if k = P + 9 then 6 else 0 := by
    by_cases hkP : k < P
    · rw [early k hkP, if_neg (by omega), if_neg (by omega)]
    · obtain ⟨j, rfl⟩ : ∃ j, k = P + j := ⟨k - P, by omega⟩
      by_cases h1 : j = 1
      · rw [late j x hx, if_pos h1, if_neg (by omega), if_neg (by omega)]
      · have hxt : x = true := by
          have := hne (P + j) (by omega)
          rw [hx, wat j (by omega)] at this; simpa using this
        rw [late j x hx, if_neg h1, hxt]
        simp only [if_true, Bool.true_eq_false, if_false]
        by_cases h9 : j = 9
        · rw [if_pos h9, if_neg (by omega), if_pos (by omega)]
        · rw [if_neg h9]
          by_cases h8 : j = 8
          · rw [if_pos h8, if_pos (by omega)]
          · rw [if_neg h8, if_neg (by omega), if_neg (by omega)]
  refine ⟨e1.trans hS, ⟨fun hk1 => e2 ?_, fun hk1 => ?_, nxT_ri s x h.ri, nxT_p s x h.p, by have := nxT_len s x; have := h.len; omega⟩, ?_⟩
  · rw [e1, hS]
    split
    · exact .inr rfl
    · rw [if_neg (by omega)]; exact .inl rfl
  · have hB := BeB.of hR (by omega) (by omega)
    refine ⟨hB.last (by rw [hB.p]; omega) x, ?_⟩
    rw [nx_ten (by rw [hB.p]; omega)]
  · by_cases hkP : k < P
    · rcases hR with hI | hB
      · rw [hI.p, decide_eq_false (by omega)]; rfl
      · have := hB.lo; omega
    · have hB := BeB.of hR (by omega) (by omega)
      rw [hB.p, hB.fi, f3, f1]
      unfold drT
      by_cases h1 : k = P + 1
      · rw [decide_eq_true h1, decide_eq_true (by omega)]; rfl
      · rw [decide_eq_false h1, decide_eq_false (by omega)]; rfl

theorem pa_body {F : Fr} (hg : Good F) : paU (boL F) = F := by
  obtain ⟨h1, h2, h3, h4, _⟩ := bo_all F hg
  unfold paU
  rw [h1, h2, h3, h4]
  rfl

theorem whole_end {F : Fr} (hg : Good F) {ack : Bool} {s : Tk} (h : Rd ((wiL F).set ((putL (boL F)).length + 1) ack) (putL (boL F)).length ((putL (boL F)).length + 10) s) :
    frF s.m s.l s.p s.fi = F ∧ frK s.m s.l s.p s.fi = true := by
  obtain ⟨g, hp⟩ := h.fin rfl
  obtain ⟨e1, e2⟩ := got_frame g
  obtain ⟨_, f2, _⟩ := wire_found hg (ack_take ack) (by rw [List.length_set, wiL_length]; omega)
  refine ⟨?_, e2⟩
  unfold frF
  rw [e1, g.li, f2, pa_body hg]
  rfl

/-- The state in its box, and its bits. -/
structure Wl (w0 wr : World) (s : Tk) (a : Option Addr) (c : Nat) : Prop where
  t : wr.heap[w0.heap.size]? = some (.cells #[.bool s.b, .int .u8 (s.m : Int), .slice a s.l.length c, .int .u8 (s.p : Int), .bool s.fi] 29 (0, 0))
  row : OL .bool 4 (w0.heap.size + 1) wr a s.l.length c s.l
  bel : Below w0.heap.size w0 wr

theorem Wl.call {w0 wr w2 : World} {s : Tk} {a : Option Addr} {c : Nat} (h : Wl w0 wr s a c) (g : Below wr.heap.size wr w2) : Wl w0 w2 s a c :=
  ⟨bx_below h.t g, h.row.below g, bstep h.bel g⟩

theorem Wl.next {w0 wr w2 : World} {s s' : Tk} {a a2 : Option Addr} {c c2 : Nat} (h : Wl w0 wr s a c) (g : Below wr.heap.size wr w2) (ho : OL .bool 4 wr.heap.size w2 a2 s'.l.length c2 s'.l) (o : Obj) :
    Wl w0 ((((((w2.alloc o).setCell ⟨w0.heap.size, 0, none⟩ (.bool s'.b)).setCell ⟨w0.heap.size, 1, none⟩ (.int .u8 (s'.m : Int))).setCell ⟨w0.heap.size, 2, none⟩ (.slice a2 s'.l.length c2)).setCell ⟨w0.heap.size, 3, none⟩ (.int .u8 (s'.p : Int))).setCell ⟨w0.heap.size, 4, none⟩ (.bool s'.fi)) s' a2 c2 := by
  have hs := bx_lt h.t
  refine ⟨set5_box _ _ _ _ _ (bx_alloc o (bx_below h.t g)), ?_, below7 (bnew (bstep h.bel g) o) (Nat.le_refl _) _ _ _ _ _⟩
  refine ((ho.mono (by omega)).alloc o).kept fun k hk => set5_other7 _ _ _ _ _ ?_
  have := (ho.ltB hk).2; dsimp only at this; omega

set_option maxRecDepth 100000 in
set_option maxHeartbeats 4000000 in
theorem takeWhole_wrong (w : World) (id : Nat) (ext rem : Bool) (dlc : Nat) (a : Option Addr) (n c : Nat) (ack : Bool) (hi : id < 4294967296) (hd : dlc < 256) (hr : riF id ext rem dlc n = false) :
    Calls Try.prog 4 #[.agg #[.int .u32 (id : Int), .bool ext, .bool rem, .int .u8 (dlc : Int), .slice a n c], .bool ack] w fun e w' => e = .returned (.bool true) ∧ Below w.heap.size w w' := by
  obtain ⟨w0, hw0, hbx, _, _, _, _, _, gg0⟩ := boxed w 36 (.int .u32 (id : Int)) (.bool ext) (.bool rem) (.int .u8 (dlc : Int)) (.slice a n c)
  have hW := wire_wrong w0 id ext rem dlc a n c hi hd hr
  go_enter Try.func4, Try.ntmps4
  go_wp2_with (first
    | (go_at_call 15; rw [hw0.out]; (with_reducible refine hW.mono ?_); rintro e w1 ⟨rfl, g1⟩)
    | (go_at_call 7; refine (awake7_any w1).mono ?_; rintro e w3 ⟨rfl, g3⟩))
  go_ret
  exact ⟨rfl, bstep (bstep gg0 g1) g3⟩

set_option maxRecDepth 100000 in
set_option maxHeartbeats 8000000 in
theorem takeWhole_right (w : World) (id : Nat) (ext rem : Bool) (dlc : Nat) (a : Option Addr) (n c : Nat) (l : List UInt8) (ack : Bool) (hi : id < 4294967296) (hd : dlc < 256) (h : RL bv w a n c l) (hr : riF id ext rem dlc n = true) :
    Calls Try.prog 4 #[.agg #[.int .u32 (id : Int), .bool ext, .bool rem, .int .u8 (dlc : Int), .slice a n c], .bool ack] w fun e w' => e = .returned (.bool true) ∧ Below w.heap.size w w' := by
  obtain ⟨w0, hw0, hbx, _, _, _, _, _, gg0⟩ := boxed w 36 (.int .u32 (id : Int)) (.bool ext) (.bool rem) (.int .u8 (dlc : Int)) (.slice a n c)
  have h0 := h.below gg0
  have hlen := h.len
  have hg : Good ⟨id, ext, rem, dlc, l⟩ := (good_iff ⟨id, ext, rem, dlc, l⟩ n h.len).1 hr
  have hn8 := (riF_long hr).2.1
  have hW := wire_any w0 id ext rem dlc a n c l hi hd h0 hr
  have hBl : (boL ⟨id, ext, rem, dlc, l⟩).length = heN ext + 8 * n + 15 := by rw [boL_length, h.len]
  have hput := putL_len (boL ⟨id, ext, rem, dlc, l⟩)
  have hBb : 34 ≤ heN ext + 8 * n + 15 ∧ heN ext + 8 * n + 15 ≤ 118 := by unfold heN; split <;> omega
  have hstep := fun (k : Nat) (s : Tk) (x : Bool) => whole_step hg (ack := ack) (x := x) (k := k) (s := s)
  have hend := fun (s : Tk) => whole_end hg (ack := ack) (s := s)
  have hWl := wiL_length ⟨id, ext, rem, dlc, l⟩
  have hst := Rd.start ((wiL ⟨id, ext, rem, dlc, l⟩).set ((putL (boL ⟨id, ext, rem, dlc, l⟩)).length + 1) ack) (putL (boL ⟨id, ext, rem, dlc, l⟩)).length
  obtain ⟨P, hP⟩ : ∃ P, P = (putL (boL ⟨id, ext, rem, dlc, l⟩)).length := ⟨_, rfl⟩
  rw [hBl, ← hP] at hput
  simp only [← hP] at hW hstep hend hWl hst
  have hPb : 34 ≤ P ∧ P ≤ 150 := by omega
  obtain ⟨W, hWe⟩ : ∃ W, W = wiL ⟨id, ext, rem, dlc, l⟩ := ⟨_, rfl⟩
  simp only [← hWe] at hW hstep hend hWl hst
  have hx9 : ∃ x9, W[P + 1]? = some x9 := ⟨W[P + 1], by simp⟩
  obtain ⟨x9, hx9⟩ := hx9
  have HLL := hid (show (W.set (P + 1) ack).length = P + 10 from by rw [List.length_set, hWl])
  obtain ⟨k9, hk9⟩ : ∃ k9, k9 = P + 1 := ⟨_, rfl⟩
  obtain ⟨N, hN⟩ : ∃ N, N = P + 10 := ⟨_, rfl⟩
  rw [← hN] at hW HLL
  rw [← hk9] at hx9 HLL
  simp only [← hk9, ← hN] at hst hstep hend
  have HX9 := hid hx9
  have HSTEP := hid hstep
  have HEND := hid hend
  have HST := hid hst
  have HK := hid (show N = P + 10 ∧ k9 = P + 1 from ⟨hN, hk9⟩)
  have i9 : (N : Int) - 9 = (k9 : Int) := by omega
  have i99 : (k9 : Int) < (N : Int) := by omega
  have hN44 : ¬ (N : Int) < 44 := by omega
  have hN160 : N ≤ 160 := by omega
  clear hBb hput hBl hP hWe hWl hx9 hstep hend hst hN hk9 hr hg hPb
  go_enter Try.func4, Try.ntmps4
  go_wp2_with (first
    | (go_at_call 15; rw [hw0.out]; (with_reducible refine hW.mono ?_); rintro e w1 ⟨a1, c1, rfl, ho1, g1⟩; obtain ⟨g, rfl, hgB⟩ := own_any ho1 (by omega); obtain ⟨qk, fk⟩ := ho1.cellAt HX9.out; have ho2 := ho1.set (i := k9) ack))
  have g2 : Below w0.heap.size w0 (w1.setCell ⟨g, k9, none⟩ (.bool ack)) := g1.setCell (by show w0.heap.size ≤ g; exact hgB) _
  have hsz : w1.heap.size = (w1.setCell ⟨g, k9, none⟩ (.bool ack)).heap.size := by simp
  obtain ⟨w2, hw2⟩ : ∃ w2, w2 = w1.setCell ⟨g, k9, none⟩ (.bool ack) := ⟨_, rfl⟩
  rw [← hw2] at ho2 g2 hsz ⊢
  rw [hsz]
  have hf2 := bx_below hbx g2
  have h2 := h0.below g2
  have gg2 := bstep gg0 g2
  have hr2 := ho2.rl
  have hW0 : Wl w2 (w2.alloc (.cells #[.bool false, .int .u8 0, .slice none 0 0, .int .u8 0, .bool false] 29)) s0 none 0 := ⟨heap_alloc_new w2 _, OL.nil _ _ _ _, bnew0 _ _⟩
  clear hw2 hsz ho2 g2 hbx h0 gg0 ho1 g1 qk fk hW hw0 HX9 i9 i99 h hgB
  go_loopw [35] (fun i wr => ∃ (k : Nat) (s : Tk) (a3 : Option Addr) (c3 : Nat), k ≤ N ∧ i = .int .i64 (k : Int) ∧ Wl w2 wr s a3 c3 ∧ Hid (Rd (W.set k9 ack) P k s)) (fun i _ => N - (intOf i).toNat)
  case atStart => exact ⟨0, s0, none, 0, by omega, rfl, hW0, HST⟩
  case round =>
    obtain ⟨k, s, a3', c3', hk, rfl, hwl, HR⟩ := hrel
    clear hW0 HST
    obtain ⟨t0, t1, t2, t3, t4⟩ := bx5 hwl.t
    by_cases hlt : k < N
    · obtain ⟨bb, off, x, hbb, hx, hck⟩ := (hr2.below hwl.bel).at hlt
      simp only [Option.some.injEq, Addr.mk.injEq, and_true] at hbb
      obtain ⟨rfl, rfl⟩ := hbb
      rw [Nat.zero_add] at hck
      obtain ⟨hdd, HR2', e3⟩ := HSTEP.out k s x hlt HR.out hx
      have HR2 := hid HR2'
      have hnx0 := fun (w1 : World) (h1 : RL .bool w1 a3' s.l.length c3' s.l) => next7_any w1 s x a3' _ c3' rfl h1 (by have := HR.out.len; omega) HR.out.ri (by have := HR.out.p; omega)
      generalize (nxT s x).2 = dd at hdd hnx0
      generalize (nxT s x).1 = s' at HR2 HR2' hnx0
      clear hx HR2'
      by_cases c1' : k = P + 1
      · have hdr : ∀ w1, Calls Try.prog 10 #[.agg #[.bool s.b, .int .u8 (s.m : Int), .slice a3' s.l.length c3', .int .u8 (s.p : Int), .bool s.fi]] w1 fun e w' => e = .returned (.bool false) ∧ Below w1.heap.size w1 w' := fun w1 => by
          have := drive7_any w1 s.b s.m a3' s.l.length c3' s.p s.fi
          rw [e3, decide_eq_true (by have := HK.out; omega)] at this
          exact this
        have hnx : ∀ w1, RL .bool w1 a3' s.l.length c3' s.l → Calls Try.prog 9 #[.agg #[.bool s.b, .int .u8 (s.m : Int), .slice a3' s.l.length c3', .int .u8 (s.p : Int), .bool s.fi], .bool x] w1 fun e w' => ∃ a' c', e = .returned (.tuple #[.agg #[.bool s'.b, .int .u8 (s'.m : Int), .slice a' s'.l.length c', .int .u8 (s'.p : Int), .bool s'.fi], .int .u8 0]) ∧ OL .bool 4 w1.heap.size w' a' s'.l.length c' s'.l ∧ Below w1.heap.size w1 w' := fun w1 h1 => by
          have := hnx0 w1 h1
          rw [show dd = 0 from by first | rfl | (have := HK.out; rw [hdd]; first | rw [if_pos (by omega)] | rw [if_neg (by omega), if_pos (by omega)] | rw [if_neg (by omega), if_neg (by omega)])] at this
          exact this
        have q9 : ((k : Int) == (N : Int) - 9) = true := by have := HK.out; simp; omega
        have q2 : ((k : Int) == (N : Int) - 2) = false := by have := HK.out; simp; omega
        have q1 : ((k : Int) == (N : Int) - 1) = false := by have := HK.out; simp; omega
        clear hnx0 hdd e3 c1'
        go_wp2_with (first
          | (go_at_call 10; (with_reducible refine (hdr _).mono ?_); rintro e w4 ⟨rfl, g4⟩; clear t0 t1 t2 t3 t4; have hV := hwl.call g4; obtain ⟨t0, t1, t2, t3, t4⟩ := bx5 hV.t)
          | (go_at_call 9; (with_reducible refine (hnx _ hV.row.rl).mono ?_); rintro e w5 ⟨a3, c3, rfl, ho5, g5⟩; clear t0 t1 t2 t3 t4; have hU := hV.next g5 ho5 (.cells #[.bool s'.b, .int .u8 (s'.m : Int), .slice a3 s'.l.length c3, .int .u8 (s'.p : Int), .bool s'.fi] 29); obtain ⟨t0, t1, t2, t3, t4⟩ := bx5 (bx_alloc (.cells #[.bool s'.b, .int .u8 (s'.m : Int), .slice a3 s'.l.length c3, .int .u8 (s'.p : Int), .bool s'.fi] 29) (bx_below hV.t g5)); have f0 := bx_thaw (bx_alloc (.cells #[.bool s'.b, .int .u8 (s'.m : Int), .slice a3 s'.l.length c3, .int .u8 (s'.p : Int), .bool s'.fi] 29) (bx_below hV.t g5)); obtain ⟨u0, u1, u2, u3, u4⟩ := bx5 (heap_alloc_new w5 (.cells #[.bool s'.b, .int .u8 (s'.m : Int), .slice a3 s'.l.length c3, .int .u8 (s'.p : Int), .bool s'.fi] 29))))
        go_roundw
        case rel => exact ⟨k + 1, s', a3, c3, by omega, by go_num, hU, HR2⟩
        case measure => simp [intOf]; omega
      · by_cases c2' : k = P + 8
        · have hdr : ∀ w1, Calls Try.prog 10 #[.agg #[.bool s.b, .int .u8 (s.m : Int), .slice a3' s.l.length c3', .int .u8 (s.p : Int), .bool s.fi]] w1 fun e w' => e = .returned (.bool true) ∧ Below w1.heap.size w1 w' := fun w1 => by
            have := drive7_any w1 s.b s.m a3' s.l.length c3' s.p s.fi
            rw [e3, decide_eq_false (by have := HK.out; omega)] at this
            exact this
          have hnx : ∀ w1, RL .bool w1 a3' s.l.length c3' s.l → Calls Try.prog 9 #[.agg #[.bool s.b, .int .u8 (s.m : Int), .slice a3' s.l.length c3', .int .u8 (s.p : Int), .bool s.fi], .bool x] w1 fun e w' => ∃ a' c', e = .returned (.tuple #[.agg #[.bool s'.b, .int .u8 (s'.m : Int), .slice a' s'.l.length c', .int .u8 (s'.p : Int), .bool s'.fi], .int .u8 4]) ∧ OL .bool 4 w1.heap.size w' a' s'.l.length c' s'.l ∧ Below w1.heap.size w1 w' := fun w1 h1 => by
            have := hnx0 w1 h1
            rw [show dd = 4 from by first | rfl | (have := HK.out; rw [hdd]; first | rw [if_pos (by omega)] | rw [if_neg (by omega), if_pos (by omega)] | rw [if_neg (by omega), if_neg (by omega)])] at this
            exact this
          have q9 : ((k : Int) == (N : Int) - 9) = false := by have := HK.out; simp; omega
          have q2 : ((k : Int) == (N : Int) - 2) = true := by have := HK.out; simp; omega
          clear hnx0 hdd e3 c1' c2'
          go_wp2_with (first
            | (go_at_call 10; (with_reducible refine (hdr _).mono ?_); rintro e w4 ⟨rfl, g4⟩; clear t0 t1 t2 t3 t4; have hV := hwl.call g4; obtain ⟨t0, t1, t2, t3, t4⟩ := bx5 hV.t)
            | (go_at_call 9; (with_reducible refine (hnx _ hV.row.rl).mono ?_); rintro e w5 ⟨a3, c3, rfl, ho5, g5⟩; clear t0 t1 t2 t3 t4; have hU := hV.next g5 ho5 (.cells #[.bool s'.b, .int .u8 (s'.m : Int), .slice a3 s'.l.length c3, .int .u8 (s'.p : Int), .bool s'.fi] 29); obtain ⟨t0, t1, t2, t3, t4⟩ := bx5 (bx_alloc (.cells #[.bool s'.b, .int .u8 (s'.m : Int), .slice a3 s'.l.length c3, .int .u8 (s'.p : Int), .bool s'.fi] 29) (bx_below hV.t g5)); have f0 := bx_thaw (bx_alloc (.cells #[.bool s'.b, .int .u8 (s'.m : Int), .slice a3 s'.l.length c3, .int .u8 (s'.p : Int), .bool s'.fi] 29) (bx_below hV.t g5)); obtain ⟨u0, u1, u2, u3, u4⟩ := bx5 (heap_alloc_new w5 (.cells #[.bool s'.b, .int .u8 (s'.m : Int), .slice a3 s'.l.length c3, .int .u8 (s'.p : Int), .bool s'.fi] 29))))
          go_roundw
          case rel => exact ⟨k + 1, s', a3, c3, by omega, by go_num, hU, HR2⟩
          case measure => simp [intOf]; omega
        · by_cases c3'' : k = P + 9
          · have hdr : ∀ w1, Calls Try.prog 10 #[.agg #[.bool s.b, .int .u8 (s.m : Int), .slice a3' s.l.length c3', .int .u8 (s.p : Int), .bool s.fi]] w1 fun e w' => e = .returned (.bool true) ∧ Below w1.heap.size w1 w' := fun w1 => by
              have := drive7_any w1 s.b s.m a3' s.l.length c3' s.p s.fi
              rw [e3, decide_eq_false (by have := HK.out; omega)] at this
              exact this
            have hnx : ∀ w1, RL .bool w1 a3' s.l.length c3' s.l → Calls Try.prog 9 #[.agg #[.bool s.b, .int .u8 (s.m : Int), .slice a3' s.l.length c3', .int .u8 (s.p : Int), .bool s.fi], .bool x] w1 fun e w' => ∃ a' c', e = .returned (.tuple #[.agg #[.bool s'.b, .int .u8 (s'.m : Int), .slice a' s'.l.length c', .int .u8 (s'.p : Int), .bool s'.fi], .int .u8 6]) ∧ OL .bool 4 w1.heap.size w' a' s'.l.length c' s'.l ∧ Below w1.heap.size w1 w' := fun w1 h1 => by
              have := hnx0 w1 h1
              rw [show dd = 6 from by first | rfl | (have := HK.out; rw [hdd]; first | rw [if_pos (by omega)] | rw [if_neg (by omega), if_pos (by omega)] | rw [if_neg (by omega), if_neg (by omega)])] at this
              exact this
            have q9 : ((k : Int) == (N : Int) - 9) = false := by have := HK.out; simp; omega
            have q2 : ((k : Int) == (N : Int) - 2) = false := by have := HK.out; simp; omega
            have q1 : ((k : Int) == (N : Int) - 1) = true := by have := HK.out; simp; omega
            clear hnx0 hdd e3 c1' c2' c3''
            go_wp2_with (first
              | (go_at_call 10; (with_reducible refine (hdr _).mono ?_); rintro e w4 ⟨rfl, g4⟩; clear t0 t1 t2 t3 t4; have hV := hwl.call g4; obtain ⟨t0, t1, t2, t3, t4⟩ := bx5 hV.t)
              | (go_at_call 9; (with_reducible refine (hnx _ hV.row.rl).mono ?_); rintro e w5 ⟨a3, c3, rfl, ho5, g5⟩; clear t0 t1 t2 t3 t4; have hU := hV.next g5 ho5 (.cells #[.bool s'.b, .int .u8 (s'.m : Int), .slice a3 s'.l.length c3, .int .u8 (s'.p : Int), .bool s'.fi] 29); obtain ⟨t0, t1, t2, t3, t4⟩ := bx5 (bx_alloc (.cells #[.bool s'.b, .int .u8 (s'.m : Int), .slice a3 s'.l.length c3, .int .u8 (s'.p : Int), .bool s'.fi] 29) (bx_below hV.t g5)); have f0 := bx_thaw (bx_alloc (.cells #[.bool s'.b, .int .u8 (s'.m : Int), .slice a3 s'.l.length c3, .int .u8 (s'.p : Int), .bool s'.fi] 29) (bx_below hV.t g5)); obtain ⟨u0, u1, u2, u3, u4⟩ := bx5 (heap_alloc_new w5 (.cells #[.bool s'.b, .int .u8 (s'.m : Int), .slice a3 s'.l.length c3, .int .u8 (s'.p : Int), .bool s'.fi] 29))))
            go_roundw
            case rel => exact ⟨k + 1, s', a3, c3, by omega, by go_num, hU, HR2⟩
            case measure => simp [intOf]; omega
          · have hdr : ∀ w1, Calls Try.prog 10 #[.agg #[.bool s.b, .int .u8 (s.m : Int), .slice a3' s.l.length c3', .int .u8 (s.p : Int), .bool s.fi]] w1 fun e w' => e = .returned (.bool true) ∧ Below w1.heap.size w1 w' := fun w1 => by
              have := drive7_any w1 s.b s.m a3' s.l.length c3' s.p s.fi
              rw [e3, decide_eq_false (by have := HK.out; omega)] at this
              exact this
            have hnx : ∀ w1, RL .bool w1 a3' s.l.length c3' s.l → Calls Try.prog 9 #[.agg #[.bool s.b, .int .u8 (s.m : Int), .slice a3' s.l.length c3', .int .u8 (s.p : Int), .bool s.fi], .bool x] w1 fun e w' => ∃ a' c', e = .returned (.tuple #[.agg #[.bool s'.b, .int .u8 (s'.m : Int), .slice a' s'.l.length c', .int .u8 (s'.p : Int), .bool s'.fi], .int .u8 0]) ∧ OL .bool 4 w1.heap.size w' a' s'.l.length c' s'.l ∧ Below w1.heap.size w1 w' := fun w1 h1 => by
              have := hnx0 w1 h1
              rw [show dd = 0 from by first | rfl | (have := HK.out; rw [hdd]; first | rw [if_pos (by omega)] | rw [if_neg (by omega), if_pos (by omega)] | rw [if_neg (by omega), if_neg (by omega)])] at this
              exact this
            have q9 : ((k : Int) == (N : Int) - 9) = false := by have := HK.out; simp; omega
            have q2 : ((k : Int) == (N : Int) - 2) = false := by have := HK.out; simp; omega
            have q1 : ((k : Int) == (N : Int) - 1) = false := by have := HK.out; simp; omega
            clear hnx0 hdd e3 c1' c2' c3''
            go_wp2_with (first
              | (go_at_call 10; (with_reducible refine (hdr _).mono ?_); rintro e w4 ⟨rfl, g4⟩; clear t0 t1 t2 t3 t4; have hV := hwl.call g4; obtain ⟨t0, t1, t2, t3, t4⟩ := bx5 hV.t)
              | (go_at_call 9; (with_reducible refine (hnx _ hV.row.rl).mono ?_); rintro e w5 ⟨a3, c3, rfl, ho5, g5⟩; clear t0 t1 t2 t3 t4; have hU := hV.next g5 ho5 (.cells #[.bool s'.b, .int .u8 (s'.m : Int), .slice a3 s'.l.length c3, .int .u8 (s'.p : Int), .bool s'.fi] 29); obtain ⟨t0, t1, t2, t3, t4⟩ := bx5 (bx_alloc (.cells #[.bool s'.b, .int .u8 (s'.m : Int), .slice a3 s'.l.length c3, .int .u8 (s'.p : Int), .bool s'.fi] 29) (bx_below hV.t g5)); have f0 := bx_thaw (bx_alloc (.cells #[.bool s'.b, .int .u8 (s'.m : Int), .slice a3 s'.l.length c3, .int .u8 (s'.p : Int), .bool s'.fi] 29) (bx_below hV.t g5)); obtain ⟨u0, u1, u2, u3, u4⟩ := bx5 (heap_alloc_new w5 (.cells #[.bool s'.b, .int .u8 (s'.m : Int), .slice a3 s'.l.length c3, .int .u8 (s'.p : Int), .bool s'.fi] 29))))
            go_roundw
            case rel => exact ⟨k + 1, s', a3, c3, by omega, by go_num, hU, HR2⟩
            case measure => simp [intOf]; omega
    · obtain rfl : k = N := by omega
      obtain ⟨e1, e2⟩ := HEND.out s HR.out
      have hfr : ∀ w1, RL .bool w1 a3' s.l.length c3' s.l → Calls Try.prog 12 #[.agg #[.bool s.b, .int .u8 (s.m : Int), .slice a3' s.l.length c3', .int .u8 (s.p : Int), .bool s.fi]] w1 fun e w' => ∃ a' c', e = .returned (.tuple #[.agg #[.int .u32 (id : Int), .bool ext, .bool rem, .int .u8 (dlc : Int), .slice a' n c'], .bool true]) ∧ RL bv w' a' n c' l ∧ Below w1.heap.size w1 w' := fun w1 h1 => by
        have := frame7_any w1 s.b s.m a3' _ c3' s.l s.p s.fi h1 (by have := HR.out.len; omega) (by have := HR.out.ri.1; omega)
        rw [e1, e2] at this
        dsimp only at this
        rw [hlen] at this
        exact this
      have hsf : ∀ (w1 : World) (a6 : Option Addr) (c6 : Nat), RL bv w1 a6 n c6 l → RL bv w1 a n c l → Calls Try.prog 14 #[.agg #[.int .u32 (id : Int), .bool ext, .bool rem, .int .u8 (dlc : Int), .slice a6 n c6], .agg #[.int .u32 (id : Int), .bool ext, .bool rem, .int .u8 (dlc : Int), .slice a n c]] w1 fun e w' => e = .returned (.bool true) ∧ Below w1.heap.size w1 w' := fun w1 a6 c6 h6 h1 => by
        have := sameFrame_any w1 id ext rem dlc a6 n c6 l id ext rem dlc a n c l h6 h1
        rw [decide_eq_true rfl] at this
        exact this
      have hrow := hwl.row.rl
      have hf3 := bx_below hf2 hwl.bel
      have h3 := h2.below hwl.bel
      have gg3 := bstep gg2 hwl.bel
      clear e1 e2 HEND HSTEP hr2 h2 hf2 gg2 hlt hlen
      go_wp2_with (first
        | (go_at_call 12; (with_reducible refine (hfr _ hrow).mono ?_); rintro e w6 ⟨a6, c6, rfl, hd6, g6⟩; clear t0 t1 t2 t3 t4; have hf6 := bx_alloc (.cells #[.int .u32 (id : Int), .bool ext, .bool rem, .int .u8 (dlc : Int), .slice a6 n c6] 36) (bx_below hf3 g6); have h6 := (h3.below g6).below (bnew0 w6 (.cells #[.int .u32 (id : Int), .bool ext, .bool rem, .int .u8 (dlc : Int), .slice a6 n c6] 36)); have hd7 := hd6.below (bnew0 w6 (.cells #[.int .u32 (id : Int), .bool ext, .bool rem, .int .u8 (dlc : Int), .slice a6 n c6] 36)); have gg6 := bnew (bstep gg3 g6) (.cells #[.int .u32 (id : Int), .bool ext, .bool rem, .int .u8 (dlc : Int), .slice a6 n c6] 36); obtain ⟨u0, u1, u2, u3, u4⟩ := bx5 hf6; obtain ⟨v0, v1, v2, v3, v4⟩ := bx5 (heap_alloc_new w6 (.cells #[.int .u32 (id : Int), .bool ext, .bool rem, .int .u8 (dlc : Int), .slice a6 n c6] 36)))
        | (go_at_call 14; (with_reducible refine (hsf _ _ _ hd7 h6).mono ?_); rintro e w8 ⟨rfl, g8⟩; have gg8 := bstep gg6 g8)
        | (go_at_call 7; (with_reducible refine (awake7_any _).mono ?_); rintro e w9 ⟨rfl, g9⟩))
      go_ret
      exact ⟨rfl, bstep gg8 g9⟩

theorem takeWhole_walk (w : World) (id : Nat) (ext rem : Bool) (dlc : Nat) (a : Option Addr) (n c : Nat) (l : List UInt8) (ack : Bool) (hi : id < 4294967296) (hd : dlc < 256) (h : RL bv w a n c l) (m1 : n ≤ 9223372036854775807) :
    Calls Try.prog 4 #[.agg #[.int .u32 (id : Int), .bool ext, .bool rem, .int .u8 (dlc : Int), .slice a n c], .bool ack] w fun e w' => e = .returned (.bool true) ∧ Below w.heap.size w w' := by
  cases hr : riF id ext rem dlc n
  · exact takeWhole_wrong w id ext rem dlc a n c ack hi hd hr
  · exact takeWhole_right w id ext rem dlc a n c l ack hi hd h hr
end Go.Proofs.Ythpgcgkgokfnpaa
