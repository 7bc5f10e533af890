/-
  The walk of the statement TakeTells: for any bits it returns true, and nothing that was there has changed.
-/
import Derived.Test.YthpgcgkgokfnpaaTakeWholeWalk
import Derived.Test.YthpgcgkgokfnpaaB7k
import Derived.Lib.QuietBelow
namespace Go.Proofs.Ythpgcgkgokfnpaa
open Go.RowKit Go.Sort
set_option linter.unusedVariables false

theorem held7 {wr w' : World} {g b o : Nat} {E : TypeId} {v0 v1 v2 v3 v4 y : Value} (ht : wr.heap[g]? = some (.cells #[v0, v1, v2, v3, v4] E (0, 0))) (hb : b < wr.heap.size) (hc : wr.cell? ⟨b, o, none⟩ = some y) (hbe : Below wr.heap.size wr w') :
    w'.cell? ⟨g, 0, none⟩ = some v0 ∧ w'.cell? ⟨g, 1, none⟩ = some v1 ∧ w'.cell? ⟨g, 2, none⟩ = some v2 ∧ w'.cell? ⟨g, 3, none⟩ = some v3 ∧ w'.cell? ⟨g, 4, none⟩ = some v4 ∧ w'.cell? ⟨b, o, none⟩ = some y ∧ Below wr.heap.size wr w' := by
  obtain ⟨c0, c1, c2, c3, c4⟩ := bx5 (bx_below ht hbe)
  exact ⟨c0, c1, c2, c3, c4, by rw [hbe.cell (p := ⟨b, o, none⟩) hb]; exact hc, hbe⟩

theorem cells5R7 {w0 : World} {g : Nat} {E : TypeId} {v0 v1 v2 v3 v4 : Value} (h : w0.heap[g]? = some (.cells #[v0, v1, v2, v3, v4] E (0, 0))) :
    (∀ d os, (grow (redrawn w0 d) os).cell? ⟨g, 0, none⟩ = some v0) ∧ (∀ d os, (grow (redrawn w0 d) os).cell? ⟨g, 1, none⟩ = some v1) ∧ (∀ d os, (grow (redrawn w0 d) os).cell? ⟨g, 2, none⟩ = some v2) ∧
    (∀ d os, (grow (redrawn w0 d) os).cell? ⟨g, 3, none⟩ = some v3) ∧ (∀ d os, (grow (redrawn w0 d) os).cell? ⟨g, 4, none⟩ = some v4) := by
  obtain ⟨k0, k1, k2, k3, k4⟩ := bx5 h
  exact ⟨fun d os => cell_regrown k0 d os, fun d os => cell_regrown k1 d os, fun d os => cell_regrown k2 d os, fun d os => cell_regrown k3 d os, fun d os => cell_regrown k4 d os⟩

/-- Behind the region that reads a bit: the next state in a box of its own, and its bits. -/
structure Tw (wr W5 : World) (q : Nat) (s' : Tk) (a5 : Option Addr) (c5 : Nat) : Prop where
  nx : W5.heap[q]? = some (.cells #[.bool s'.b, .int .u8 (s'.m : Int), .slice a5 s'.l.length c5, .int .u8 (s'.p : Int), .bool s'.fi] 29 (0, 0))
  row : OL .bool 4 wr.heap.size W5 a5 s'.l.length c5 s'.l
  bel : Below wr.heap.size wr W5
  hq : wr.heap.size ≤ q

theorem tw1 {wr w5 : World} {s' : Tk} {a5 : Option Addr} {c5 : Nat} (g15 : Below wr.heap.size wr w5) (ho5 : OL .bool 4 wr.drew.heap.size w5 a5 s'.l.length c5 s'.l) :
    Tw wr (w5.alloc (.cells #[.bool s'.b, .int .u8 (s'.m : Int), .slice a5 s'.l.length c5, .int .u8 (s'.p : Int), .bool s'.fi] 29)) w5.heap.size s' a5 c5 :=
  ⟨heap_alloc_new w5 _, (show OL .bool 4 wr.heap.size w5 a5 s'.l.length c5 s'.l from ho5).alloc _, bnew g15 _, g15.size⟩

theorem tw2 {wr w5 : World} {s' : Tk} {a5 : Option Addr} {c5 : Nat} {Z : Obj} {u0 u1 u2 u3 u4 : Value} (g15 : Below wr.heap.size wr w5) (ho5 : OL .bool 4 (wr.alloc Z).drew.heap.size w5 a5 s'.l.length c5 s'.l)
    (hz : w5.heap[wr.heap.size]? = some (.cells #[u0, u1, u2, u3, u4] 29 (0, 0))) : Tw wr (((((w5.setCell ⟨wr.heap.size, 0, none⟩ (.bool s'.b)).setCell ⟨wr.heap.size, 1, none⟩ (.int .u8 (s'.m : Int))).setCell ⟨wr.heap.size, 2, none⟩ (.slice a5 s'.l.length c5)).setCell ⟨wr.heap.size, 3, none⟩ (.int .u8 (s'.p : Int))).setCell ⟨wr.heap.size, 4, none⟩ (.bool s'.fi)) wr.heap.size s' a5 c5 := by
  have ho : OL .bool 4 (wr.heap.size + 1) w5 a5 s'.l.length c5 s'.l := by
    have e : (wr.alloc Z).drew.heap.size = wr.heap.size + 1 := by show (wr.alloc Z).heap.size = _; exact heap_size_alloc _ _
    rw [e] at ho5; exact ho5
  refine ⟨set5_box _ _ _ _ _ hz, (ho.kept fun k hk => set5_other7 _ _ _ _ _ ?_).mono (by omega), below7 g15 (Nat.le_refl _) _ _ _ _ _, Nat.le_refl _⟩
  have := (ho.ltB hk).2; dsimp only at this; omega

theorem Wl.take {w0 wr W5 : World} {s s' : Tk} {a a5 : Option Addr} {c c5 q : Nat} (h : Wl w0 wr s a c) (hT : Tw wr W5 q s' a5 c5) : Wl w0 (((((W5.setCell ⟨w0.heap.size, 0, none⟩ (.bool s'.b)).setCell ⟨w0.heap.size, 1, none⟩ (.int .u8 (s'.m : Int))).setCell ⟨w0.heap.size, 2, none⟩ (.slice a5 s'.l.length c5)).setCell ⟨w0.heap.size, 3, none⟩ (.int .u8 (s'.p : Int))).setCell ⟨w0.heap.size, 4, none⟩ (.bool s'.fi)) s' a5 c5 := by
  have hs := bx_lt h.t
  refine ⟨set5_box _ _ _ _ _ (bx_below h.t hT.bel), (hT.row.kept fun k hk => set5_other7 _ _ _ _ _ ?_).mono (by omega), below7 (bstep h.bel hT.bel) (Nat.le_refl _) _ _ _ _ _⟩
  have := (hT.row.ltB hk).2; dsimp only at this; omega

set_option maxRecDepth 100000 in
set_option maxHeartbeats 16000000 in
theorem takeTells_short (w : World) (a : Option Addr) (n c : Nat) (l : List Bool) (h : RL .bool w a n c l) (hn : n ≤ 220) :
    Calls Try.prog 3 #[.slice a n c] w fun e w' => e = .returned (.bool true) ∧ Below w.heap.size w w' := by
  have hrd := refRead7_any w a n c l h (by omega)
  obtain ⟨a1', a2', a3', a4'⟩ := alT_all l
  rw [rdL_all] at hrd
  rw [h.len] at a3'
  generalize (alT s0 l).2 = O at *
  clear a4' a2'
  obtain ⟨NO, hNO⟩ : ∃ NO, NO = O.length := ⟨_, rfl⟩
  rw [← hNO] at hrd a3' a1'
  have HAT := hid a1'
  clear a1' hNO
  go_enter Try.func3, Try.ntmps3
  go_wp2_with (first
    | (go_at_call 8; (with_reducible refine hrd.mono ?_); rintro e w1 ⟨ao, co, rfl, ho1, g1⟩; have h1 := h.below g1; have hr1 := ho1.rl))
  clear hrd ho1 h
  have hW0 : Wl w1 (w1.alloc (.cells #[.bool false, .int .u8 0, .slice none 0 0, .int .u8 0, .bool false] 29)) s0 none 0 := ⟨heap_alloc_new w1 _, OL.nil _ _ _ _, bnew0 _ _⟩
  go_loopw [21] (fun i wr => ∃ (k : Nat) (s : Tk) (a3 : Option Addr) (c3 : Nat), k ≤ NO ∧ i = .int .i64 (k : Int) ∧ Wl w1 wr s a3 c3 ∧ Hid (Reading l k s ∧ s.p ≤ 11 ∧ s.l.length ≤ k)) (fun i _ => NO - (intOf i).toNat)
  case atStart => exact ⟨0, s0, none, 0, by omega, rfl, hW0, hid ⟨Reading.start l, by simp [s0], by simp [s0]⟩⟩
  case round =>
    obtain ⟨k, s, a3, c3, hk, rfl, hwl, HR⟩ := hrel
    clear hW0
    by_cases hlt : k < NO
    · obtain ⟨bo, oo, d, rfl, hd, hcd⟩ := (hr1.below hwl.bel).at hlt
      obtain ⟨bb, off, x, rfl, hx, hck⟩ := (h1.below hwl.bel).at (k := k) (by omega)
      have hbb : bb < wr.heap.size := by obtain ⟨_, _, e, hl', _⟩ := (h1.below hwl.bel).cell (by omega); cases e; exact hl'
      obtain ⟨e1, e2⟩ := HR.out.1.said hx
      have hSd : Sy l k = d := by have := HAT.out k hlt; rw [hd, Nat.zero_add] at this; simpa using this.symm
      rw [hSd] at e1
      rw [e1] at e2
      have hlk : (l.take (k + 1)).length = k + 1 := by rw [List.length_take, h1.len]; omega
      have HNX := hid (show d = 0 ∨ d = 4 → Reading l (k + 1) (nxT s x).1 ∧ drT (nxT s x).1.p (nxT s x).1.fi = rdD (l.take (k + 1)) ∧ frF (nxT s x).1.m (nxT s x).1.l (nxT s x).1.p (nxT s x).1.fi = rfF (l.take (k + 1)) ∧ frK (nxT s x).1.m (nxT s x).1.l (nxT s x).1.p (nxT s x).1.fi = rfK (l.take (k + 1)) from fun hc => by
        have h2 := e2 hc
        have h3 := h2.pre (by rw [h1.len]; omega)
        have h4 : Reading (l.take (k + 1)) (l.take (k + 1)).length (nxT s x).1 := by rw [hlk]; exact h3
        exact ⟨h2, h4.drive, h4.frame.1, h4.frame.2⟩)
      have HSZ := hid (show (nxT s x).1.p ≤ 11 ∧ (nxT s x).1.l.length ≤ k + 1 ∧ (nxT s x).1.m < 256 from ⟨nxT_p s x HR.out.2.1, by have := nxT_len s x; have := HR.out.2.2; omega, by have := (nxT_ri s x HR.out.1.ri).1; omega⟩)
      have hnx := fun (w2 : World) (h2 : RL .bool w2 a3 s.l.length c3 s.l) => next7_any w2 s x a3 _ c3 rfl h2 (by have := HR.out.2.2; omega) HR.out.1.ri (by have := HR.out.2.1; omega)
      rw [e1] at hnx
      generalize (nxT s x).1 = s' at hnx HNX HSZ
      have hcd' : wr.cell? ⟨bo, oo + k, none⟩ = some (.int .u8 (d : Int)) := hcd
      have hd1 : Below wr.heap.size wr wr.drew := (Below.refl _ _).drew
      have ht := hwl.t
      have hda : Below wr.heap.size wr (wr.alloc (.cells #[.bool false, .int .u8 0, .slice none 0 0, .int .u8 0, .bool false] 29)).drew := (bnew0 wr _).drew
      have hza : (wr.alloc (.cells #[.bool false, .int .u8 0, .slice none 0 0, .int .u8 0, .bool false] 29)).drew.heap[wr.heap.size]? = some (.cells #[.bool false, .int .u8 0, .slice none 0 0, .int .u8 0, .bool false] 29 (0, 0)) := heap_alloc_new wr _
      have hkn : (k : Int) < (n : Int) := by omega
      have hkn' : k < n := by omega
      clear e1 e2 hSd hd hx hcd
      go_wp2_with fail
      go_region_held3 (fun w' => w'.cell? ⟨w1.heap.size, 0, none⟩ = some (.bool s.b) ∧ w'.cell? ⟨w1.heap.size, 1, none⟩ = some (.int .u8 (s.m : Int)) ∧ w'.cell? ⟨w1.heap.size, 2, none⟩ = some (.slice a3 s.l.length c3) ∧ w'.cell? ⟨w1.heap.size, 3, none⟩ = some (.int .u8 (s.p : Int)) ∧ w'.cell? ⟨w1.heap.size, 4, none⟩ = some (.bool s.fi) ∧ w'.cell? ⟨bb, off + k, none⟩ = some (.bool x) ∧ Below wr.heap.size wr w')
        (first
          | exact held7 ht hbb hck hd1
          | exact held7 ht hbb hck hda
          | exact held7 ht hbb hck g15
          | exact held7 ht hbb hck (bnew g15 _)
          | exact held7 ht hbb hck (below7 g15 (Nat.le_refl _) _ _ _ _ _))
        (first
          | (go_simp; go_at_call 9; (with_reducible refine Calls.mono (hnx wr.drew (hwl.row.rl.below hd1)) ?_); rintro e w5 ⟨a5, c5, rfl, ho5, g5⟩; have g15 := bstep hd1 g5)
          | (go_simp; go_at_call 9; (with_reducible refine Calls.mono (hnx (wr.alloc (.cells #[.bool false, .int .u8 0, .slice none 0 0, .int .u8 0, .bool false] 29)).drew (hwl.row.rl.below hda)) ?_); rintro e w5 ⟨a5, c5, rfl, ho5, g5⟩; have g15 := bstep hda g5; have hz5 := bx_below hza g5; obtain ⟨z0, z1, z2, z3, z4⟩ := bx5 hz5; have z5 := bx_thaw hz5))
      all_goals
        first
          | (have hT := tw1 (s' := s') g15 ho5
             obtain ⟨W5, hW5⟩ : ∃ W5, W5 = w5.alloc (.cells #[.bool s'.b, .int .u8 (s'.m : Int), .slice a5 s'.l.length c5, .int .u8 (s'.p : Int), .bool s'.fi] 29) := ⟨_, rfl⟩
             rw [← hW5] at hT ⊢
             obtain ⟨q, hq⟩ : ∃ q, q = w5.heap.size := ⟨_, rfl⟩
             rw [← hq] at hT
             simp only [← hq]
             clear hq hW5)
          | (have hT := tw2 (s' := s') g15 ho5 hz5
             obtain ⟨W5, hW5⟩ : ∃ W5, W5 = (((((w5.setCell ⟨wr.heap.size, 0, none⟩ (.bool s'.b)).setCell ⟨wr.heap.size, 1, none⟩ (.int .u8 (s'.m : Int))).setCell ⟨wr.heap.size, 2, none⟩ (.slice a5 s'.l.length c5)).setCell ⟨wr.heap.size, 3, none⟩ (.int .u8 (s'.p : Int))).setCell ⟨wr.heap.size, 4, none⟩ (.bool s'.fi)) := ⟨_, rfl⟩
             rw [← hW5] at hT ⊢
             obtain ⟨q, hq⟩ : ∃ q, q = wr.heap.size := ⟨_, rfl⟩
             rw [← hq] at hT
             simp only [← hq]
             clear hq hW5)
        try clear hz5 z0 z1 z2 z3 z4 z5
        have hU := hwl.take hT
        obtain ⟨n0, n1, n2, n3, n4⟩ := bx5 hT.nx
        have f0 := bx_thaw (bx_below ht hT.bel)
        obtain ⟨o0, o1, o2, o3, o4⟩ := bx5 (bx_below ht hT.bel)
        clear ho5 g5 g15 hda hza hd1 hnx ht hck hbb hcd'
        by_cases h0 : d = 0
        · have q0 : ((d : Int) != 0) = false := by rw [h0]; rfl
          obtain ⟨HR', e1, e2, e3⟩ := HNX.out (.inl h0)
          have HRD := hid HR'
          have hdv0 := fun (w2 : World) => drive7_any w2 s'.b s'.m a5 s'.l.length c5 s'.p s'.fi
          rw [e1] at hdv0
          have hfr0 := fun (w2 : World) (h2 : RL .bool w2 a5 s'.l.length c5 s'.l) => frame7_any w2 s'.b s'.m a5 _ c5 s'.l s'.p s'.fi h2 (by have := HSZ.out.2.1; omega) HSZ.out.2.2
          rw [e2, e3] at hfr0
          have hrd0 := fun (w2 : World) (ap : Option Addr) (h2 : RL .bool w2 ap (k + 1) c (l.take (k + 1))) => refDrive7_any w2 ap (k + 1) c _ h2 (by omega)
          have hrf0 := fun (w2 : World) (ap : Option Addr) (h2 : RL .bool w2 ap (k + 1) c (l.take (k + 1))) => refFrame7_any w2 ap (k + 1) c _ h2 (by omega)
          generalize rdD (l.take (k + 1)) = dv at hdv0 hrd0
          generalize rfK (l.take (k + 1)) = ok at hfr0 hrf0
          generalize rfF (l.take (k + 1)) = F at hfr0 hrf0
          obtain ⟨fid, fext, frem, fdlc, fdata⟩ := F
          dsimp only at hfr0 hrf0
          generalize hM : fdata.length = M at hfr0 hrf0
          have hsf : ∀ (w2 : World) (a6 : Option Addr) (c6 : Nat) (a7 : Option Addr) (c7 : Nat), RL bv w2 a6 M c6 fdata → RL bv w2 a7 M c7 fdata → Calls Try.prog 14 #[.agg #[.int .u32 (fid : Int), .bool fext, .bool frem, .int .u8 (fdlc : Int), .slice a6 M c6], .agg #[.int .u32 (fid : Int), .bool fext, .bool frem, .int .u8 (fdlc : Int), .slice a7 M c7]] w2 fun e w' => e = .returned (.bool true) ∧ Below w2.heap.size w2 w' := fun w2 a6 c6 a7 c7 h6 h7 => by
            have := sameFrame_any w2 fid fext frem fdlc a6 M c6 fdata fid fext frem fdlc a7 M c7 fdata h6 h7
            rw [decide_eq_true rfl] at this
            exact this
          clear e1 e2 e3 HR' HNX h0 hM
          go_wp2_with fail
          obtain ⟨W6, hW6⟩ : ∃ W6, W6 = (((((W5.setCell ⟨w1.heap.size, 0, none⟩ (.bool s'.b)).setCell ⟨w1.heap.size, 1, none⟩ (.int .u8 (s'.m : Int))).setCell ⟨w1.heap.size, 2, none⟩ (.slice a5 s'.l.length c5)).setCell ⟨w1.heap.size, 3, none⟩ (.int .u8 (s'.p : Int))).setCell ⟨w1.heap.size, 4, none⟩ (.bool s'.fi)) := ⟨_, rfl⟩
          rw [← hW6] at hU ⊢
          clear hW6 n0 n1 n2 n3 n4 o0 o1 o2 o3 o4 f0 hT
          obtain ⟨ap, p1, p2, hrp⟩ := run_cutTo tB (h1.below hU.bel) .i64 (k + 1) (by omega)
          have p1' : ∀ w', (Instr.sliceAt 22 (.slice (some ⟨bb, off, none⟩) n c) none (some (.int .i64 ((k : Int) + 1))) none).run Try.prog w' = .ok (.slice ap (k + 1) c) w' := p1
          have p2' : ∀ w', (Instr.slice 22 (.slice (some ⟨bb, off, none⟩) n c) none (some (.int .i64 ((k : Int) + 1))) none).run Try.prog w' = .ok (.slice ap (k + 1) c) w' := p2
          clear p1 p2
          obtain ⟨t0, t1, t2, t3, t4⟩ := cells5R7 hU.t
          have hdv : ∀ d os, Calls Try.prog 10 #[.agg #[.bool s'.b, .int .u8 (s'.m : Int), .slice a5 s'.l.length c5, .int .u8 (s'.p : Int), .bool s'.fi]] (grow (redrawn W6 d) os) fun e w'' => e = .returned (.bool dv) ∧ ∃ p : Regrown, w'' = grow (redrawn W6 p.d) p.os := fun d os => Calls.regrown_of (hdv0 _)
          have hrd : ∀ d os, Calls Try.prog 11 #[.slice ap (k + 1) c] (grow (redrawn W6 d) os) fun e w'' => e = .returned (.bool dv) ∧ ∃ p : Regrown, w'' = grow (redrawn W6 p.d) p.os := fun d os => Calls.regrown_of (hrd0 _ ap (hrp.below (below_regrown _ _ _)))
          clear hdv0 hrd0
          refine wp_region_quiet_below (by kernel_rfl) (by kernel_rfl) ?_
          repeat (go_big_quiet_step (first
            | (go_at_call 10; with_reducible exact hdv _ _)
            | (go_at_call 11; with_reducible exact hrd _ _)))
          refine wpQuiet_nil ?_
          intro w9 hw9
          have gg9 : Below W6.heap.size W6 w9 := by obtain ⟨p9, rfl⟩ := hw9; exact below_regrown _ _ _
          clear hw9 t0 t1 t2 t3 t4 hdv hrd
          have hV := hU.call gg9
          have hrp9 := hrp.below gg9
          have hrw9 := hV.row.rl
          obtain ⟨t0, t1, t2, t3, t4⟩ := bx5 hV.t
          go_wp2_with (first
            | (go_at_call 12; (with_reducible refine (hfr0 _ hrw9).mono ?_); rintro e w10 ⟨a10, c10, rfl, hd10, g10⟩; clear t0 t1 t2 t3 t4; have hX := hV.call (bnew g10 (.cells #[.int .u32 (fid : Int), .bool fext, .bool frem, .int .u8 (fdlc : Int), .slice a10 M c10] 36)); have hrp10 := hrp9.below (bnew g10 (.cells #[.int .u32 (fid : Int), .bool fext, .bool frem, .int .u8 (fdlc : Int), .slice a10 M c10] 36)); have hd10' := hd10.below (bnew0 w10 (.cells #[.int .u32 (fid : Int), .bool fext, .bool frem, .int .u8 (fdlc : Int), .slice a10 M c10] 36)); have hf10 := heap_alloc_new w10 (.cells #[.int .u32 (fid : Int), .bool fext, .bool frem, .int .u8 (fdlc : Int), .slice a10 M c10] 36))
            | (go_at_call 13; (with_reducible refine (hrf0 _ _ hrp10).mono ?_); rintro e w11 ⟨a11, c11, rfl, hd11, g11⟩; have hY := hX.call (bnew g11 (.cells #[.int .u32 (fid : Int), .bool fext, .bool frem, .int .u8 (fdlc : Int), .slice a11 M c11] 36)); have hd11' := hd11.below (bnew0 w11 (.cells #[.int .u32 (fid : Int), .bool fext, .bool frem, .int .u8 (fdlc : Int), .slice a11 M c11] 36)); have hd12 := hd10'.below (bnew g11 (.cells #[.int .u32 (fid : Int), .bool fext, .bool frem, .int .u8 (fdlc : Int), .slice a11 M c11] 36)); obtain ⟨u0, u1, u2, u3, u4⟩ := bx5 (bx_below hf10 (bnew g11 (.cells #[.int .u32 (fid : Int), .bool fext, .bool frem, .int .u8 (fdlc : Int), .slice a11 M c11] 36))); obtain ⟨v0, v1, v2, v3, v4⟩ := bx5 (heap_alloc_new w11 (.cells #[.int .u32 (fid : Int), .bool fext, .bool frem, .int .u8 (fdlc : Int), .slice a11 M c11] 36)))
            | (go_at_call 14; (with_reducible refine (hsf _ _ _ _ _ hd12 hd11').mono ?_); rintro e w12 ⟨rfl, g12⟩; have hZ := hY.call g12))
          go_roundw
          case rel => exact ⟨k + 1, s', a5, c5, by omega, by go_num, hZ, hid ⟨HRD.out, HSZ.out.1, HSZ.out.2.1⟩⟩
          case measure => simp [intOf]; omega
        · have q0 : ((d : Int) != 0) = true := by simp; omega
          by_cases h4 : d = 4
          · have q4 : ((d : Int) != 4) = false := by rw [h4]; rfl
            obtain ⟨HR', e1, e2, e3⟩ := HNX.out (.inr h4)
            have HRD := hid HR'
            have hdv0 := fun (w2 : World) => drive7_any w2 s'.b s'.m a5 s'.l.length c5 s'.p s'.fi
            rw [e1] at hdv0
            have hfr0 := fun (w2 : World) (h2 : RL .bool w2 a5 s'.l.length c5 s'.l) => frame7_any w2 s'.b s'.m a5 _ c5 s'.l s'.p s'.fi h2 (by have := HSZ.out.2.1; omega) HSZ.out.2.2
            rw [e2, e3] at hfr0
            have hrd0 := fun (w2 : World) (ap : Option Addr) (h2 : RL .bool w2 ap (k + 1) c (l.take (k + 1))) => refDrive7_any w2 ap (k + 1) c _ h2 (by omega)
            have hrf0 := fun (w2 : World) (ap : Option Addr) (h2 : RL .bool w2 ap (k + 1) c (l.take (k + 1))) => refFrame7_any w2 ap (k + 1) c _ h2 (by omega)
            generalize rdD (l.take (k + 1)) = dv at hdv0 hrd0
            generalize rfK (l.take (k + 1)) = ok at hfr0 hrf0
            generalize rfF (l.take (k + 1)) = F at hfr0 hrf0
            obtain ⟨fid, fext, frem, fdlc, fdata⟩ := F
            dsimp only at hfr0 hrf0
            generalize hM : fdata.length = M at hfr0 hrf0
            have hsf : ∀ (w2 : World) (a6 : Option Addr) (c6 : Nat) (a7 : Option Addr) (c7 : Nat), RL bv w2 a6 M c6 fdata → RL bv w2 a7 M c7 fdata → Calls Try.prog 14 #[.agg #[.int .u32 (fid : Int), .bool fext, .bool frem, .int .u8 (fdlc : Int), .slice a6 M c6], .agg #[.int .u32 (fid : Int), .bool fext, .bool frem, .int .u8 (fdlc : Int), .slice a7 M c7]] w2 fun e w' => e = .returned (.bool true) ∧ Below w2.heap.size w2 w' := fun w2 a6 c6 a7 c7 h6 h7 => by
              have := sameFrame_any w2 fid fext frem fdlc a6 M c6 fdata fid fext frem fdlc a7 M c7 fdata h6 h7
              rw [decide_eq_true rfl] at this
              exact this
            clear e1 e2 e3 HR' HNX h0 h4 hM
            go_wp2_with fail
            obtain ⟨W6, hW6⟩ : ∃ W6, W6 = (((((W5.setCell ⟨w1.heap.size, 0, none⟩ (.bool s'.b)).setCell ⟨w1.heap.size, 1, none⟩ (.int .u8 (s'.m : Int))).setCell ⟨w1.heap.size, 2, none⟩ (.slice a5 s'.l.length c5)).setCell ⟨w1.heap.size, 3, none⟩ (.int .u8 (s'.p : Int))).setCell ⟨w1.heap.size, 4, none⟩ (.bool s'.fi)) := ⟨_, rfl⟩
            rw [← hW6] at hU ⊢
            clear hW6 n0 n1 n2 n3 n4 o0 o1 o2 o3 o4 f0 hT
            obtain ⟨ap, p1, p2, hrp⟩ := run_cutTo tB (h1.below hU.bel) .i64 (k + 1) (by omega)
            have p1' : ∀ w', (Instr.sliceAt 22 (.slice (some ⟨bb, off, none⟩) n c) none (some (.int .i64 ((k : Int) + 1))) none).run Try.prog w' = .ok (.slice ap (k + 1) c) w' := p1
            have p2' : ∀ w', (Instr.slice 22 (.slice (some ⟨bb, off, none⟩) n c) none (some (.int .i64 ((k : Int) + 1))) none).run Try.prog w' = .ok (.slice ap (k + 1) c) w' := p2
            clear p1 p2
            obtain ⟨t0, t1, t2, t3, t4⟩ := cells5R7 hU.t
            have hdv : ∀ d os, Calls Try.prog 10 #[.agg #[.bool s'.b, .int .u8 (s'.m : Int), .slice a5 s'.l.length c5, .int .u8 (s'.p : Int), .bool s'.fi]] (grow (redrawn W6 d) os) fun e w'' => e = .returned (.bool dv) ∧ ∃ p : Regrown, w'' = grow (redrawn W6 p.d) p.os := fun d os => Calls.regrown_of (hdv0 _)
            have hrd : ∀ d os, Calls Try.prog 11 #[.slice ap (k + 1) c] (grow (redrawn W6 d) os) fun e w'' => e = .returned (.bool dv) ∧ ∃ p : Regrown, w'' = grow (redrawn W6 p.d) p.os := fun d os => Calls.regrown_of (hrd0 _ ap (hrp.below (below_regrown _ _ _)))
            clear hdv0 hrd0
            refine wp_region_quiet_below (by kernel_rfl) (by kernel_rfl) ?_
            repeat (go_big_quiet_step (first
              | (go_at_call 10; with_reducible exact hdv _ _)
              | (go_at_call 11; with_reducible exact hrd _ _)))
            refine wpQuiet_nil ?_
            intro w9 hw9
            have gg9 : Below W6.heap.size W6 w9 := by obtain ⟨p9, rfl⟩ := hw9; exact below_regrown _ _ _
            clear hw9 t0 t1 t2 t3 t4 hdv hrd
            have hV := hU.call gg9
            have hrp9 := hrp.below gg9
            have hrw9 := hV.row.rl
            obtain ⟨t0, t1, t2, t3, t4⟩ := bx5 hV.t
            go_wp2_with (first
              | (go_at_call 12; (with_reducible refine (hfr0 _ hrw9).mono ?_); rintro e w10 ⟨a10, c10, rfl, hd10, g10⟩; clear t0 t1 t2 t3 t4; have hX := hV.call (bnew g10 (.cells #[.int .u32 (fid : Int), .bool fext, .bool frem, .int .u8 (fdlc : Int), .slice a10 M c10] 36)); have hrp10 := hrp9.below (bnew g10 (.cells #[.int .u32 (fid : Int), .bool fext, .bool frem, .int .u8 (fdlc : Int), .slice a10 M c10] 36)); have hd10' := hd10.below (bnew0 w10 (.cells #[.int .u32 (fid : Int), .bool fext, .bool frem, .int .u8 (fdlc : Int), .slice a10 M c10] 36)); have hf10 := heap_alloc_new w10 (.cells #[.int .u32 (fid : Int), .bool fext, .bool frem, .int .u8 (fdlc : Int), .slice a10 M c10] 36))
              | (go_at_call 13; (with_reducible refine (hrf0 _ _ hrp10).mono ?_); rintro e w11 ⟨a11, c11, rfl, hd11, g11⟩; have hY := hX.call (bnew g11 (.cells #[.int .u32 (fid : Int), .bool fext, .bool frem, .int .u8 (fdlc : Int), .slice a11 M c11] 36)); have hd11' := hd11.below (bnew0 w11 (.cells #[.int .u32 (fid : Int), .bool fext, .bool frem, .int .u8 (fdlc : Int), .slice a11 M c11] 36)); have hd12 := hd10'.below (bnew g11 (.cells #[.int .u32 (fid : Int), .bool fext, .bool frem, .int .u8 (fdlc : Int), .slice a11 M c11] 36)); obtain ⟨u0, u1, u2, u3, u4⟩ := bx5 (bx_below hf10 (bnew g11 (.cells #[.int .u32 (fid : Int), .bool fext, .bool frem, .int .u8 (fdlc : Int), .slice a11 M c11] 36))); obtain ⟨v0, v1, v2, v3, v4⟩ := bx5 (heap_alloc_new w11 (.cells #[.int .u32 (fid : Int), .bool fext, .bool frem, .int .u8 (fdlc : Int), .slice a11 M c11] 36)))
              | (go_at_call 14; (with_reducible refine (hsf _ _ _ _ _ hd12 hd11').mono ?_); rintro e w12 ⟨rfl, g12⟩; have hZ := hY.call g12))
            go_roundw
            case rel => exact ⟨k + 1, s', a5, c5, by omega, by go_num, hZ, hid ⟨HRD.out, HSZ.out.1, HSZ.out.2.1⟩⟩
            case measure => simp [intOf]; omega
          · have q4 : ((d : Int) != 4) = true := by simp; omega
            have gg := bstep g1 hU.bel
            clear hT hU hr1 h1 hwl HNX HSZ h0 h4
            go_wp2_with (go_at_call 7; (with_reducible refine (awake7_any _).mono ?_); rintro e w9 ⟨rfl, g9⟩)
            go_ret
            exact ⟨rfl, bstep gg g9⟩
    · obtain rfl : k = NO := by omega
      have gg := bstep g1 hwl.bel
      clear hr1 h1
      go_wp2_with (go_at_call 7; (with_reducible refine (awake7_any _).mono ?_); rintro e w9 ⟨rfl, g9⟩)
      go_ret
      exact ⟨rfl, bstep gg g9⟩

set_option maxHeartbeats 2000000 in
theorem takeTells_walk (w : World) (a : Option Addr) (n c : Nat) (l : List Bool) (h : RL .bool w a n c l) (m1 : n ≤ 9223372036854775807) :
    Calls Try.prog 3 #[.slice a n c] w fun e w' => e = .returned (.bool true) ∧ Below w.heap.size w w' := by
  by_cases hn : n ≤ 220
  · exact takeTells_short w a n c l h hn
  · have hn' : (220 : Int) < (n : Int) := by omega
    go_enter Try.func3, Try.ntmps3
    go_wp2_with (go_at_call 7; (with_reducible refine (awake7_any _).mono ?_); rintro e w9 ⟨rfl, g9⟩)
    go_ret
    exact ⟨rfl, g9⟩
end Go.Proofs.Ythpgcgkgokfnpaa
