/-
  Contract: Push.
-/
import Derived.Test.YtkojljmhgeehoaaB12c
import Derived.Deep.DeepCutAuto
namespace Go.Proofs.Ytkojljmhgeehoaa
open Go.RowKit Go.Sort
set_option linter.unusedVariables false

section
variable {B : Nat} {w w1 : World} {g s : Nat} {m : Fm} {a : Option Addr} {c : Nat} {st : List Rx} {S : Nat → Prop}

set_option maxRecDepth 100000 in
set_option maxHeartbeats 2000000 in
theorem ffPush_full (h : FfO B w g s m a c st S) (cs : Array Value) (hl : m.fs.length = m.room) :
    Calls Try.prog 10 #[.pointer (some ⟨g, 0, none⟩), .agg cs] w fun e w' => e = .returned (.int .i64 5) ∧ FfO B w' g s { m with ov := true } a c st S ∧ Ch S w w' := by
  obtain ⟨w0, hw0, h0, hg⟩ : ∃ w0, Hid (w.alloc (.cells cs 36) = w0) ∧ FfO B w0 g s m a c st S ∧ Below w.heap.size w w0 := ⟨_, rfl, h.alloc _, bnew0 w _⟩
  have hm := ffMade_any h0
  have q1 := (bx5 h0.box).2.1
  have q3 := (bx5 h0.box).2.2.2.1
  rw [← hl] at q1
  have q4 := (bx5 h0.box).2.2.2.2
  have hz := h0.thaw
  have hk := h0.flag true
  have kc : Ch S w (w0.setCell ⟨g, 4, none⟩ (.bool true)) := (Ch.of_below hg).setCell (p := ⟨g, 4, none⟩) (.inl h.sg) _
  have hk' := h0.drewN 1
  clear h hl
  go_enter Try.func10, Try.ntmps10
  go_wp2_with (go_at_call 19; rw [hw0.out]; (refine hm.mono ?_); rintro e w1 ⟨rfl, rfl⟩)
  go_quiet (fail)
  rename_i nq
  have h2 := h0.drewN nq
  have g2 := below_drewN hg nq
  clear q1 q3 q4 hz hk kc hm hw0 h0 hg hk'
  generalize w0.drewN nq = w2 at *
  have q4 := (bx5 h2.box).2.2.2.2
  have hz := h2.thaw
  go_wp2
  go_ret
  exact ⟨rfl, h2.flag true, (Ch.of_below g2).setCell (p := ⟨g, 4, none⟩) (.inl h2.sg) _⟩

/-- The fifo with one more. -/
def puF (F : Fr) (da : Option Addr) (dc : Nat) (t : Int) (m : Fm) : Fm := { m with fs := m.fs ++ [((F, (da, dc)), t)] }
/-- What Push answers, and leaves. -/
def PuR (B : Nat) (w : World) (g s : Nat) (m : Fm) (F : Fr) (t : Int) (S : Nat → Prop) (e : Ending) (w' : World) : Prop :=
  ∃ a' c' st' S' da dc, e = .returned (.int .i64 0) ∧ FfO B w' g s (puF F da dc t m) a' c' st' S' ∧ Ch S w w' ∧ (∀ b, S' b → S b ∨ w.heap.size ≤ b)

theorem push_fin {w3 w5 : World} {F : Fr} {t : Int} {da : Option Addr} {dc : Nat} {o : Obj} (h3 : FfO B w3 g s m a c st S) (hk3 : Ch S w w3) (hsl : ∀ k, S k → k < w.heap.size) (hl : m.fs.length < m.room) (hlt : m.fs.length < c)
    (g5 : Below w3.heap.size w3 w5) (o5 : OL bv 5 w3.heap.size w5 da F.data.length dc F.data) :
    FfO B (((w5.alloc o).setCells s ((2 * m.room - c) * 6 + m.fs.length * 6) (enX ((F, (da, dc)), t))).setCell ⟨g, 3, none⟩ (.slice a (m.fs.length + 1) c)) g s (puF F da dc t m) a c (st.set (2 * m.room - c + m.fs.length) ((F, (da, dc)), t)) (fun b => S b ∨ (w.heap.size ≤ b ∧ b < w5.heap.size)) ∧
    Ch S w (((w5.alloc o).setCells s ((2 * m.room - c) * 6 + m.fs.length * 6) (enX ((F, (da, dc)), t))).setCell ⟨g, 3, none⟩ (.slice a (m.fs.length + 1) c)) := by
  have z5 := g5.size
  have za : (w5.alloc o).heap.size = w5.heap.size + 1 := by simp
  have hbB := h3.hB
  have hgl := h3.lt
  have hc2 := h3.cle
  have hle := h3.le
  have h5 := (h3.below g5).alloc o
  have ho := h5.row.put enX_k (i := 2 * m.room - c + m.fs.length) (by omega) ((F, (da, dc)), t)
  rw [Nat.add_mul] at ho
  obtain ⟨W, hW⟩ : ∃ W, W = (w5.alloc o).setCells s ((2 * m.room - c) * 6 + m.fs.length * 6) (enX ((F, (da, dc)), t)) := ⟨_, rfl⟩
  have kW : Wr s (w5.alloc o) W := by rw [hW]; exact wr_setCells s _ _ _
  have zW : W.heap.size = w5.heap.size + 1 := by rw [hW, sz_setCells, za]
  rw [← hW] at ho ⊢
  have bW := (kW.block g (by rw [za]; omega) (Ne.symm h3.ng)).trans h5.box
  have kV : Ch (fun b => b = g ∨ b = s) (w5.alloc o) (W.setCell ⟨g, 3, none⟩ (.slice a (m.fs.length + 1) c)) :=
    Ch.setCell (S := fun b => b = g ∨ b = s) ⟨kW.os, kW.tape, kW.output, kW.size, fun b hb hn => kW.block b hb (fun e => hn (.inr e))⟩ (p := ⟨g, 3, none⟩) (.inl (.inl rfl)) _
  have hdl : ∀ q, da = some q → q.block < w5.heap.size ∧ w3.heap.size ≤ q.block := fun q hq => o5.ltB hq
  have z3 := hk3.size
  have hch : Ch S w (W.setCell ⟨g, 3, none⟩ (.slice a (m.fs.length + 1) c)) :=
    ((hk3.call g5).alloc o).trans kV (fun b hb => .inl (by rcases hb with e | e; rw [e]; exact h3.sg; rw [e]; exact h3.ss))
  have hlen : (puF F da dc t m).fs.length = m.fs.length + 1 := by simp [puF]
  have hstl := h3.row.len
  have hnew : ∀ q, da = some q → q.block ≠ g ∧ q.block ≠ s := fun q hq => by
    have := hdl q hq
    have h1 := h3.sL _ h3.sg
    have h2 := h3.sL _ h3.ss
    exact ⟨by omega, by omega⟩
  have hold : ∀ p ∈ m.fs, ∀ q, p.1.2.1 = some q → q.block < w3.heap.size := fun p hp q hq => h3.sL _ (h3.sd p hp q hq)
  refine ⟨⟨?_, ?_, h3.ad, hc2, by rw [hlen]; omega, fun i x hx => ?_, fun p hp => ?_, hbB, .inl h3.sg, .inl h3.ss, h3.ng, fun p hp q hq => ?_, fun k hk => ?_, fun p hp => ?_, ?_, h3.r1, h3.rm, by rw [hlen]; exact hl, fun k hk => ?_⟩, hch⟩
  · rw [heap_setCell_same W g 3 _ _ _ bW]
    show some (Obj.cells #[_, _, _, Value.slice a (m.fs.length + 1) c, _] _ _) = some (Obj.cells #[_, _, _, Value.slice a (puF F da dc t m).fs.length c, _] _ _)
    rw [hlen]
    rfl
  · exact ho.kept fun b hb => Below.heap_setCell _ _ _ _ (by cases hb; exact h3.ng)
  · show (st.set _ _)[2 * m.room - c + i]? = _
    by_cases hi : i < m.fs.length
    · have : m.fs[i]? = some x := by
        have h0 : (m.fs ++ [((F, (da, dc)), t)])[i]? = some x := hx
        rwa [List.getElem?_append_left hi] at h0
      rw [List.getElem?_set_ne (by omega)]
      exact h3.fr i x this
    · have h0 : (m.fs ++ [((F, (da, dc)), t)])[i]? = some x := hx
      have hi2 : i = m.fs.length := by
        have := (List.getElem?_eq_some_iff.1 h0).1
        simp at this; omega
      subst hi2
      simp at h0
      subst h0
      rw [List.getElem?_set_self (by omega)]
  · rcases List.mem_append.1 hp with hp | hp
    · exact (h5.dat p hp).ch kV (fun q hq e => by
        rcases e with e | e
        · exact (h3.nd p hp).1 q hq e
        · exact (h3.nd p hp).2 q hq e)
    · simp at hp
      subst hp
      exact ((o5.alloc o).mono (by omega)).ch kV (fun q hq e => by
        rcases e with e | e
        · exact (hnew q hq).1 e
        · exact (hnew q hq).2 e)
  · rcases List.mem_append.1 hp with hp | hp
    · exact .inl (h3.sd p hp q hq)
    · simp at hp
      subst hp
      have := hdl q hq
      right; omega
  · rcases hk with hk | hk
    · exact h3.sB k hk
    · have := hsl _ h3.sg; omega
  · rcases List.mem_append.1 hp with hp | hp
    · exact h3.nd p hp
    · simp at hp
      subst hp
      exact ⟨fun q hq => (hnew q hq).1, fun q hq => (hnew q hq).2⟩
  · refine List.pairwise_append.2 ⟨h3.pw, List.pairwise_singleton _ _, fun p hp q hq => ?_⟩
    simp at hq
    subst hq
    intro x y hx hy e
    have h1 := hold p hp x hx
    have h2 := hdl y hy
    omega
  · rw [sz_set, zW]
    rcases hk with hk | hk
    · have := hsl k hk; omega
    · omega

/-- A fifo with room for one more ahead. -/
def RmF (B : Nat) (w0 : World) (g s : Nat) (m : Fm) (S : Nat → Prop) (k : Nat) (cs : Array Value) (w' : World) : Prop :=
  ∃ a' c' st', FfO B w' g s m a' c' st' S ∧ m.fs.length < c' ∧ Ch S w0 w' ∧ w'.heap[k]? = some (.cells cs 36 (0, 0))

set_option maxRecDepth 100000 in
set_option maxHeartbeats 8000000 in
theorem ffPush_any (h : FfO B w g s m a c st S) (F : Fr) (t : Int) (fa : Option Addr) (fc : Nat) (hl : m.fs.length < m.room) (hR : ∀ w', Ch S w w' → RL bv w' fa F.data.length fc F.data) (hlen : F.data.length ≤ 1000000) :
    Calls Try.prog 10 #[.pointer (some ⟨g, 0, none⟩), .agg (rxV ((F, (fa, fc)), t))] w (PuR B w g s m F t S) := by
  obtain ⟨w0, hw0, h0, hb, hg⟩ : ∃ w0, Hid (w.alloc (.cells (rxV ((F, (fa, fc)), t)) 36) = w0) ∧ FfO B w0 g s m a c st S ∧ w0.heap[w.heap.size]? = some (.cells (rxV ((F, (fa, fc)), t)) 36 (0, 0)) ∧ Below w.heap.size w w0 := ⟨_, rfl, h.alloc _, heap_alloc_new w _, bnew0 w _⟩
  have hm := ffMade_any h0
  have q1 := (bx5 h0.box).2.1
  have q3 := (bx5 h0.box).2.2.2.1
  have hne : ((m.fs.length : Int) == (m.room : Int)) = false := by rw [beq_eq_false_iff_ne]; omega
  have hgl := h.lt
  have hsl := h.sL
  have HL := hid hl
  clear h hl
  go_enter Try.func10, Try.ntmps10
  go_wp2_with (go_at_call 19; rw [hw0.out]; (refine hm.mono ?_); rintro e w1 ⟨rfl, rfl⟩)
  go_quiet (fail)
  rename_i nq
  have h2 := h0.drewN nq
  have g2 := below_drewN hg nq
  have b2 := bx_below hb (below_drewN (Below.refl w0.heap.size w0) nq)
  clear q1 q3 hm hw0 h0 hg hb
  generalize w0.drewN nq = w2 at *
  have q3 := (bx5 h2.box).2.2.2.1
  obtain ⟨eq, heq⟩ : ∃ eq : Bool, ((m.fs.length : Int) == (c : Int)) = eq := ⟨_, rfl⟩
  go_upto_if 33 with fail
  go_quiet (fail)
  have h3 := h2.drewN nq
  have g3 := below_drewN g2 nq
  have b3 := bx_below b2 (below_drewN (Below.refl w2.heap.size w2) nq)
  have HEQ := hid heq
  clear q3 h2 g2 b2 heq
  generalize w2.drewN nq = w3 at *
  go_upto_if 33 with fail
  go_cut [4] (fun v wx => v = .int .i64 0 ∧ RmF B w g s m S w.heap.size (rxV ((F, (fa, fc)), t)) wx)
  case first =>
    have HEQ2 := HEQ.out
    cases eq with
    | true =>
      have hc : m.fs.length = c := by have := eq_of_beq HEQ2; omega
      have hcm := compact_any h3 hc HL.out
      clear HEQ2 HEQ
      go_wp2_with (go_at_call 20; (refine hcm.mono ?_); rintro e w4 ⟨rfl, h4, k4⟩)
      go_meet
      refine ⟨rfl, _, _, _, h4, by have := h3.r1; have := HL.out; omega, (Ch.of_below g3).trans k4 (fun b hb => .inl (by rcases hb with e | e; rw [e]; exact h3.sg; rw [e]; exact h3.ss)), k4.bx b3 (fun e => ?_)⟩
      rcases e with e | e
      · omega
      · have := hsl _ h3.ss; omega
    | false =>
      have hc : m.fs.length < c := by
        have h1 := h3.nle
        have h2 : ¬ ((m.fs.length : Int) = (c : Int)) := by intro e; rw [e] at HEQ2; simp at HEQ2
        omega
      clear HEQ2 HEQ
      go_wp2_with fail
      go_meet
      exact ⟨rfl, _, _, _, h3, hc, Ch.of_below g3, b3⟩
  case rest =>
  obtain ⟨rfl, a', c', st', h5, hlt, k5, b5⟩ := hcut
  have had := h5.ad (by omega)
  clear h3 g3 b3 HEQ hne
  obtain ⟨off, hoff⟩ : ∃ off, off = 2 * m.room - c' := ⟨_, rfl⟩
  obtain ⟨n, hn⟩ : ∃ n, n = m.fs.length := ⟨_, rfl⟩
  rw [← hoff] at had
  subst had
  have HO := hid hoff; have HN := hid hn
  have q3 : wc.cell? ⟨g, 3, none⟩ = some (.slice (some ⟨s, off * 6, none⟩) n c') := by rw [hn]; exact (bx5 h5.box).2.2.2.1
  clear hoff hn
  have hR3 := (hR _ k5).drew
  have hd3 : Below wc.heap.size wc wc.drew := (Below.refl _ _).drew
  have HS : Below wc.heap.size wc wc.drew := hd3
  have hq3 : ∀ w', Below wc.heap.size wc w' → w'.cell? ⟨g, 3, none⟩ = some (.slice (some ⟨s, off * 6, none⟩) n c') := fun w' hw => (hw.cell (p := ⟨g, 3, none⟩) h5.lt).trans q3
  clear q3 hR
  go_upto_region 8 with fail
  refine Rest.begin (S := fun w' => Below wc.heap.size wc w') (X := [6, 7, 8]) (by kernel_rfl) ?_
  change Rest _ _ _ _ _ _ _ _ _ wc.drew
  refine Rest.take (i := 0) (v := .pointer (some ⟨g, 0, none⟩)) rfl (by kernel_rfl) (by kernel_rfl) (by kernel_rfl) (by kernel_rfl) (fun _ _ _ h => h) (.inl HS) (Or.inl ⟨by simp [Region.wanted], ?_⟩) ?_
  · intro w; go_simp
  refine Rest.take (i := 1) (v := .pointer (some ⟨g, 0, none⟩)) rfl (by kernel_rfl) (by kernel_rfl) (by kernel_rfl) (by kernel_rfl) (fun _ _ _ h => h) (.inl HS) (Or.inl ⟨by simp [Region.wanted], ?_⟩) ?_
  · intro w; go_simp
  refine Rest.take (i := 2) (v := .pointer (some ⟨g, 0, none⟩)) rfl (by kernel_rfl) (by kernel_rfl) (by kernel_rfl) (by kernel_rfl) (fun _ _ _ h => h) (.inl HS) (Or.inl ⟨by simp [Region.wanted], ?_⟩) ?_
  · intro w; go_simp
  refine Rest.take (i := 3) (v := .pointer (some ⟨g, 3, none⟩)) rfl (by kernel_rfl) (by kernel_rfl) (by kernel_rfl) (by kernel_rfl) (fun _ _ _ h => h) (.inl HS) (Or.inl ⟨by simp [Region.wanted], ?_⟩) ?_
  · intro w; go_simp
  refine Rest.takeS (i := 4) (v := .slice (some ⟨s, off * 6, none⟩) n c') rfl (by kernel_rfl) (by kernel_rfl) (by kernel_rfl) (by kernel_rfl) (fun _ _ _ h => h) HS (.inl ⟨by simp [Region.wanted], ?_⟩) ?_
  · intro w hw; have q3 := hq3 w hw; go_simp
  refine Rest.takeS (i := 5) (v := .agg (rxV ((F, (fa, fc)), t))) rfl (by kernel_rfl) (by kernel_rfl) (by kernel_rfl) (by kernel_rfl) (fun _ _ _ h => h) HS (yields_loadR rowX (by simp [Region.wanted]) _ rfl w.heap.size (by simp [Act.eval, Act.put]) _ rfl (fun w' hw => ⟨_, _, bx_below b5 hw⟩)) ?_
  refine Rest.one (i := 6) (by kernel_rfl) rfl (fun K hK => ?_)
  refine draw_callF 21 (by kernel_rfl) (by simp [Region.wanted]) _ _ _ rfl (by simp [Act.eval]) #[.agg (rxV ((F, (fa, fc)), t))] (by simp [Act.eval, Act.put]) _ (own_any _ _ _ _ _ hR3 hlen) ?_
  rintro e w5 ⟨da, dc, rfl, o5, g5⟩
  refine ⟨_, rfl, ?_⟩
  have g35 : Below wc.heap.size wc w5 := hd3.trans g5
  have z5 := g35.size
  refine hK _ _ ⟨.inl g35, ?_⟩; clear hK K
  have cX : ∀ (i : Nat) (v : Value), (enX ((F, (da, dc)), t))[i]? = some v → (w5.alloc (.cells (rxV ((F, (da, dc)), t)) 36)).cell? ((⟨w5.heap.size, 0, none⟩ : Addr).add i) = some v := fun i v hv => by
    rw [Addr.add_lit, Nat.zero_add, cell_of_row _ _ i _ _ _ (heap_alloc_new w5 _)]
    simpa [enX] using hv
  have h6 := (h5.below g35).alloc (.cells (rxV ((F, (da, dc)), t)) 36)
  have hth : ∀ p, p < 2 * m.room * 6 → ((w5.alloc (.cells (rxV ((F, (da, dc)), t)) 36)).cell? ⟨s, p, none⟩).isSome = true ∧ (w5.alloc (.cells (rxV ((F, (da, dc)), t)) 36)).frozen? ⟨s, p, none⟩ = false := fun p hp => ffThere h6 p hp
  refine Rest.one (i := 7) (by kernel_rfl) rfl (fun K hK => ?_)
  rw [if_pos (by simp [Region.wanted])]
  go_simp
  refine hK _ _ ⟨.inl (g35.alloc z5 _), ?_⟩; clear hK K
  obtain ⟨i0, hi0, hz0, hz1, hz2⟩ := info_parts elX.info
  refine Rest.one (i := 8) (by kernel_rfl) rfl (fun K hK => ?_)
  refine step_append_room rfl (.tmp 40) (.tmp 43) 28 rfl 36 i0 6 elX.und hi0 hz1 s (off * 6) n c' rfl ⟨w5.heap.size, 0, none⟩ 1 1 (enX ((F, (da, dc)), t)) rfl rfl cX (enX_k.one _) (by have := HN.out; omega) (fun j hj => by have := hj; have := HO.out; have := HN.out; have := h5.cle; exact hth _ (by have : j < 6 := hj; omega)) ?_
  refine hK _ _ ⟨.inr (thru_of (by kernel_rfl)), Rest.of_any _ _ _ _ (thru_of (by kernel_rfl)) ?_⟩; clear hK K
  have hfin := push_fin (t := t) (o := .cells (rxV ((F, (da, dc)), t)) 36) h5 k5 hsl HL.out hlt g35 o5
  have bW : ((w5.alloc (.cells (rxV ((F, (da, dc)), t)) 36)).setCells s (off * 6 + n * 6) (enX ((F, (da, dc)), t))).heap[g]? = some (.cells (ffV g s m (some ⟨s, off * 6, none⟩) c') 56 (0, 0)) := ((wr_setCells s _ _ _).block g h6.lt (Ne.symm h6.ng)).trans h6.box
  rw [← HO.out, ← HN.out] at hfin
  have zz : w.heap.size ≤ w5.heap.size := by have := k5.size; omega
  clear hth cX h6 h5 HS hq3 hR3 hd3 o5 g5 g35 z5
  generalize (w5.alloc (.cells (rxV ((F, (da, dc)), t)) 36)).setCells s (off * 6 + n * 6) (enX ((F, (da, dc)), t)) = W at *
  have hz7 := bx_thaw bW
  have q37 : W.cell? ⟨g, 3, none⟩ = some (.slice (some ⟨s, off * 6, none⟩) n c') := by rw [HN.out]; exact (bx5 bW).2.2.2.1
  clear bW
  refine wpAny_take (i := 9) (v := .pointer (some ⟨g, 0, none⟩)) rfl (by kernel_rfl) (by kernel_rfl) (by kernel_rfl) (fun _ _ _ h => h) (Or.inl ⟨by simp [Region.wanted], ?_⟩) ?_
  · intro w; go_simp
  refine wpAny_take (i := 10) (v := .pointer (some ⟨g, 3, none⟩)) rfl (by kernel_rfl) (by kernel_rfl) (by kernel_rfl) (fun _ _ _ h => h) (Or.inl ⟨by simp [Region.wanted], ?_⟩) ?_
  · intro w; go_simp
  refine wpAny_ready (rs := [11]) (by kernel_rfl) (by simp) ?_
  refine AllReady.cons rfl (fun K hK => ?_) AllReady.nil
  rw [if_pos (by simp [Region.wanted])]
  go_simp
  refine hK _ _ ?_; clear hK K
  refine wpAny_done (by kernel_rfl) ?_ _
  go_wp2
  go_ret
  exact ⟨_, _, _, _, _, _, rfl, hfin.1, hfin.2, fun b hb => hb.imp id fun x => x.1⟩
end
end Go.Proofs.Ytkojljmhgeehoaa
