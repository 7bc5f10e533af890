/-
  Contract: Put.
  Contracts: New, Abort, Best.
  Contract: Best.
  Contract: the chapter's examples (awake).
-/
import Derived.Test.YtffbkcjkmhjfnaaB10j
import Derived.Test.YtffbkcjkmhjfnaaB1f
import Derived.Test.YtffbkcjkmhjfnaaB4g
import Derived.Deep.RegionLaw
namespace Go.Proofs.Ytffbkcjkmhjfnaa
open Go.RowKit Go.Sort
set_option linter.unusedVariables false

theorem step_appgK {P : Program} {T E : TypeId} {k : Nat} {z : Value} {bytes : Nat} {α : Type} {enc : α → List Value} {B : Nat} {w : World} {a : Option Addr} {n c : Nat} {l m : List α} {ops : Array Oper} {o : Oper} {ac : Act} {K : Act → World → Prop} {Q : Exit → Act → World → Prop} {R : Prop}
    (hT : ElK P T E k z bytes) (hk : EnK enc k) (hgd : o.guard = none) (s x : Operand)
    (ho : o.op = .call { callee := .builtin .append, args := #[s, x], argTypes := #[T, T] })
    {a2 : Option Addr} {n2 c2 : Nat} (hs : ac.eval s = .slice a n c) (hown : OK enc k E B w a n c l) (hx : ac.eval x = .slice a2 n2 c2) (hr : RK enc k w a2 n2 c2 m) (h0 : 0 < n2)
    (h63 : n + n2 ≤ 1000000000) (hby : bytes ≤ 64) (hbase : B ≤ w.heap.size)
    (h : ∀ w' a' c', OK enc k E B w' a' (n + n2) c' (l ++ m) → Below B w w' → (∀ q, q < w.heap.size → NB a q → w'.heap[q]? = w.heap[q]? ∧ NB a' q) → w.heap.size ≤ w'.heap.size → K (ac.put o.dst (.slice a' (n + n2) c')) w') :
    if Region.wanted o (yielded ops ac.tmps) = true then Oper.wp P o ac w K Q else R := by
  rw [if_pos (by simp [Region.wanted, hgd])]
  exact wp_appgK hT hk s x ho hs hown hx hr h0 h63 hby hbase h

section
variable {B : Nat} {w w1 w2 w3 : World} {g : Nat} {m m1 m2 : Ml} {a : Option Addr} {c : Nat} {S : Nat → Prop}

/-- The mail behind Put. -/
def puM (F : Fr) (da : Option Addr) (dc : Nat) (m : Ml) : Ml := { m with puts := m.puts + 1, ws := m.ws ++ [((F, (da, dc)), m.puts + 1)] }

set_option maxRecDepth 100000 in
set_option maxHeartbeats 4000000 in
theorem put_wrong (h : MlO B w g m a c S) (F : Fr) (fa : Option Addr) (fc : Nat) (hi : F.id < 4294967296) (hd : F.dlc < 256) (hr : riF F.id F.ext F.rem F.dlc F.data.length = false) :
    Calls Try.prog 17 #[.pointer (some ⟨g, 0, none⟩), .agg (frV F fa fc)] w fun e w' => e = .returned (.tuple #[.int .i64 0, .int .i64 40]) ∧ Below w.heap.size w w' := by
  obtain ⟨w0, hw0, h0, hb, gg⟩ : ∃ w0, Hid (w.alloc (.cells (frV F fa fc) 34) = w0) ∧ MlO B w0 g m a c S ∧ w0.heap[w.heap.size]? = some (.cells (frV F fa fc) 34 (0, 0)) ∧ Below w.heap.size w w0 := ⟨_, rfl, h.alloc _, heap_alloc_new w _, bnew0 w _⟩
  obtain ⟨x0, x1, x2, x3, x4⟩ := bx5 hb
  have hm := mlMade_any h0
  have hR := frRight_any w0 F.id F.ext F.rem F.dlc fa F.data.length fc hi hd
  rw [hr] at hR
  clear hr
  go_enter Try.func17, Try.ntmps17
  go_wp2_with (first
    | (go_at_call 27; rw [hw0.out]; (refine hm.mono ?_); rintro e w1 ⟨rfl, rfl⟩)
    | (go_at_call 13; (refine hR.mono ?_); rintro e w1 ⟨rfl, g1⟩))
  go_ret2
  exact ⟨rfl, bstep gg g1⟩

set_option maxRecDepth 100000 in
set_option maxHeartbeats 4000000 in
theorem put_full (h : MlO B w g m a c S) (F : Fr) (fa : Option Addr) (fc : Nat) (hi : F.id < 4294967296) (hd : F.dlc < 256) (hr : riF F.id F.ext F.rem F.dlc F.data.length = true) (hl : m.ws.length = m.room) :
    Calls Try.prog 17 #[.pointer (some ⟨g, 0, none⟩), .agg (frV F fa fc)] w fun e w' => e = .returned (.tuple #[.int .i64 0, .int .i64 5]) ∧ Below w.heap.size w w' := by
  obtain ⟨w0, hw0, h0, hb, gg⟩ : ∃ w0, Hid (w.alloc (.cells (frV F fa fc) 34) = w0) ∧ MlO B w0 g m a c S ∧ w0.heap[w.heap.size]? = some (.cells (frV F fa fc) 34 (0, 0)) ∧ Below w.heap.size w w0 := ⟨_, rfl, h.alloc _, heap_alloc_new w _, bnew0 w _⟩
  obtain ⟨x0, x1, x2, x3, x4⟩ := bx5 hb
  have hm := mlMade_any h0
  have hR := frRight_any w0 F.id F.ext F.rem F.dlc fa F.data.length fc hi hd
  rw [hr] at hR
  clear hr
  have he : ((m.ws.length : Int) == (m.room : Int)) = true := by rw [beq_iff_eq]; omega
  clear hl
  go_enter Try.func17, Try.ntmps17
  go_wp2_with (first
    | (go_at_call 27; rw [hw0.out]; (refine hm.mono ?_); rintro e w1 ⟨rfl, rfl⟩)
    | (go_at_call 13; (refine hR.mono ?_); rintro e w1 ⟨rfl, g1⟩
       have h1 := h0.below g1
       have q1 := (bx6 h1.box).2.1
       have q3 := (bx6 h1.box).2.2.2.1))
  go_quiet (fail)
  go_wp2
  go_ret2
  exact ⟨rfl, below_drewN (bstep gg g1) _⟩

/-- What Put leaves, put together. -/
theorem put_fin {F : Fr} {da a' : Option Addr} {dc c' : Nat} {w5 w7 : World} {o : Obj} (h3 : MlO B w3 g { m with puts := m.puts + 1 } a c S) (hw : w.heap.size ≤ w3.heap.size) (hgw : g < w.heap.size) (hS : ∀ b, S b → b < w.heap.size) (hk3 : Ch S w w3)
    (hi : F.id < 4294967296) (hd : F.dlc < 256) (hlen : F.data.length ≤ 1000000) (hl : m.ws.length < m.room) (hpu : m.puts + 1 < 4611686018427387904)
    (g5 : Below w3.heap.size w3 w5) (o5 : OL bv 5 w3.heap.size w5 da F.data.length dc F.data)
    (o7 : OK enW 6 65 B w7 a' (m.ws.length + 1) c' (m.ws ++ [((F, (da, dc)), m.puts + 1)])) (g7 : Below B (w5.alloc o) w7) (hkeep : ∀ q, q < (w5.alloc o).heap.size → NB a q → w7.heap[q]? = (w5.alloc o).heap[q]? ∧ NB a' q) (hsz : (w5.alloc o).heap.size ≤ w7.heap.size) :
    MlO B (w7.setCell ⟨g, 3, none⟩ (.slice a' (m.ws.length + 1) c')) g (puM F da dc m) a' c' (fun b => S b ∨ (w.heap.size ≤ b ∧ b < w7.heap.size)) ∧ Ch S w (w7.setCell ⟨g, 3, none⟩ (.slice a' (m.ws.length + 1) c')) := by
  have z5 := g5.size
  have za : (w5.alloc o).heap.size = w5.heap.size + 1 := by simp
  have h5 := (h3.below g5).alloc o
  have hg5 := h3.lt
  have kA : Ch (fun b => ∃ q, a = some q ∧ q.block = b) (w5.alloc o) w7 := ⟨g7.os, g7.tape, g7.output, hsz, fun b hb hn => (hkeep b hb (fun q hq e => hn ⟨q, hq, e⟩)).1⟩
  have hbx : w7.heap[g]? = some (.cells (mlV g { m with puts := m.puts + 1 } a c) 49 (0, 0)) := (hkeep g (by omega) h3.ng).1.trans h5.box
  have hng' : NB a' g := (hkeep g (by omega) h3.ng).2
  have haS : ∀ q, a' = some q → S q.block ∨ (w.heap.size ≤ q.block ∧ q.block < w7.heap.size) := fun q hq => by
    have hlt := (o7.ltB hq).1
    by_cases hb : q.block < (w5.alloc o).heap.size
    · by_cases hn : NB a q.block
      · exact absurd rfl ((hkeep _ hb hn).2 q hq)
      · left
        have : ∃ q0, a = some q0 ∧ q0.block = q.block := by
          cases a with
          | none => exact absurd (NB.nil _) hn
          | some q0 => by_cases e : q0.block = q.block; exact ⟨q0, rfl, e⟩; exact absurd (fun p hp => by cases hp; exact e) hn
        obtain ⟨q0, h1, h2⟩ := this
        rw [← h2]; exact h3.sr q0 h1
    · right; omega
  have hsw : (w7.setCell ⟨g, 3, none⟩ (.slice a' (m.ws.length + 1) c')).heap.size = w7.heap.size := by simp [World.setCell]
  have hoth : ∀ b, b ≠ g → (w7.setCell ⟨g, 3, none⟩ (.slice a' (m.ws.length + 1) c')).heap[b]? = w7.heap[b]? := fun b hb => Below.heap_setCell _ _ _ _ hb
  have kG : Ch (fun b => b = g) w7 (w7.setCell ⟨g, 3, none⟩ (.slice a' (m.ws.length + 1) c')) := Ch.setCell (S := fun b => b = g) (Ch.refl _ w7) (p := ⟨g, 3, none⟩) (.inl rfl) _
  have hdl : ∀ q, da = some q → q.block < w5.heap.size ∧ w3.heap.size ≤ q.block := fun q hq => o5.ltB hq
  have hbB := h3.hB
  have naA : ∀ q, a = some q → q.block < w.heap.size := fun q hq => hS _ (h3.sr q hq)
  have hch : Ch S w (w7.setCell ⟨g, 3, none⟩ (.slice a' (m.ws.length + 1) c')) := by
    have k1 := (hk3.call g5).alloc o
    have k2 := k1.trans kA (fun b hb => by obtain ⟨q, h1, h2⟩ := hb; left; rw [← h2]; exact h3.sr q h1)
    exact k2.setCell (p := ⟨g, 3, none⟩) (.inl h3.sg) _
  refine ⟨⟨?_, ?_, ?_, h3.hB, .inl h3.sg, haS, ?_, ?_, hng', ?_, h3.rm, ?_, hpu, h3.wi, ?_⟩, hch⟩
  · rw [heap_setCell_same w7 g 3 _ _ _ hbx]
    show some (Obj.cells #[_, _, _, Value.slice a' (m.ws.length + 1) c', _, _] _ _) = some (Obj.cells #[_, _, _, Value.slice a' (puM F da dc m).ws.length c', _, _] _ _)
    rw [show (puM F da dc m).ws.length = m.ws.length + 1 by simp [puM]]
    rfl
  · rw [show (puM F da dc m).ws.length = m.ws.length + 1 by simp [puM]]
    exact o7.kept fun b hb => hoth b (by have := hng'; subst hb; exact this.block)
  · intro p hp
    rcases List.mem_append.1 hp with hp | hp
    · exact ((h5.wt p hp).ch kA (fun q hq ⟨q0, e1, e2⟩ => (h3.nd p hp).2 q0 e1 q hq e2.symm)).ch kG (fun q hq e => (h3.nd p hp).1 q hq e)
    · simp at hp
      subst hp
      have hr := ((o5.alloc o).rl.ch kA (fun q hq ⟨q0, e1, e2⟩ => by have := (hdl q hq).2; have := naA q0 e1; omega)).ch kG (fun q hq e => by have := (hdl q hq).2; omega)
      exact ⟨hr, hi, hd, hlen, hpu⟩
  · intro p hp q hq
    rcases List.mem_append.1 hp with hp | hp
    · exact .inl (h3.sd p hp q hq)
    · simp at hp
      subst hp
      have := hdl q hq
      right; omega
  · intro b hb
    rcases hb with hb | hb
    · exact h3.sB b hb
    · omega
  · intro p hp
    rcases List.mem_append.1 hp with hp | hp
    · refine ⟨(h3.nd p hp).1, fun q hq => ?_⟩
      intro q1 hq1 e
      have h1 := hS _ (h3.sd p hp q1 hq1)
      have hb : q.block < (w5.alloc o).heap.size := by omega
      by_cases hn : NB a q.block
      · exact (hkeep _ hb hn).2 q hq rfl
      · cases a with
        | none => exact hn (NB.nil _)
        | some q0 =>
          refine hn fun p2 hp2 => ?_
          cases hp2
          intro e2
          exact (h3.nd p hp).2 q0 rfl q1 hq1 (by omega)
    · simp at hp
      subst hp
      refine ⟨fun q hq e => by have := (hdl q hq).2; omega, fun q hq q1 hq1 e => ?_⟩
      have h1 := hdl q1 hq1
      have hn : NB a q1.block := fun p2 hp2 e2 => by have := naA p2 hp2; omega
      exact (hkeep _ (by omega) hn).2 q hq e.symm
  · show (puM F da dc m).ws.length ≤ m.room
    rw [show (puM F da dc m).ws.length = m.ws.length + 1 by simp [puM]]; omega
  · intro b hb
    rw [hsw]
    rcases hb with hb | hb
    · have := hS b hb; omega
    · omega

/-- What Put answers, and leaves. -/
def PutR (B : Nat) (w : World) (g : Nat) (m : Ml) (F : Fr) (S : Nat → Prop) (e : Ending) (w' : World) : Prop :=
  ∃ a' c' S' da dc, e = .returned (.tuple #[.int .i64 ((m.puts : Int) + 1), .int .i64 0]) ∧ MlO B w' g (puM F da dc m) a' c' S' ∧ Ch S w w' ∧ (∀ b, S' b → S b ∨ w.heap.size ≤ b)

set_option maxRecDepth 100000 in
set_option maxHeartbeats 8000000 in
theorem mlPut_any (h : MlO B w g m a c S) (F : Fr) (fa : Option Addr) (fc : Nat) (hi : F.id < 4294967296) (hd : F.dlc < 256) (hr : riF F.id F.ext F.rem F.dlc F.data.length = true) (hl : m.ws.length < m.room) (hpu : m.puts + 1 < 4611686018427387904) (hR : ∀ w', Ch S w w' → RL bv w' fa F.data.length fc F.data) (hlen : F.data.length ≤ 1000000) :
    Calls Try.prog 17 #[.pointer (some ⟨g, 0, none⟩), .agg (frV F fa fc)] w (PutR B w g m F S) := by
  obtain ⟨w0, hw0, h0, hb, gg⟩ : ∃ w0, Hid (w.alloc (.cells (frV F fa fc) 34) = w0) ∧ MlO B w0 g m a c S ∧ w0.heap[w.heap.size]? = some (.cells (frV F fa fc) 34 (0, 0)) ∧ Below w.heap.size w w0 := ⟨_, rfl, h.alloc _, heap_alloc_new w _, bnew0 w _⟩
  obtain ⟨x0, x1, x2, x3, x4⟩ := bx5 hb
  have hm := mlMade_any h0
  have hRi := frRight_any w0 F.id F.ext F.rem F.dlc fa F.data.length fc hi hd
  rw [hr] at hRi
  clear hr
  have he : ((m.ws.length : Int) == (m.room : Int)) = false := by rw [beq_eq_false_iff_ne]; omega
  have hgB : g < w.heap.size := h.lt
  have hpu' : (m.puts : Int) + 1 < 4611686018427387904 := by omega
  have HL := hid hl; clear hl
  go_enter Try.func17, Try.ntmps17
  go_wp2_with (first
    | (go_at_call 27; rw [hw0.out]; (refine hm.mono ?_); rintro e w1 ⟨rfl, rfl⟩)
    | (go_at_call 13; (refine hRi.mono ?_); rintro e w1 ⟨rfl, g1⟩
       have h1 := h0.below g1
       have q1 := (bx6 h1.box).2.1
       have q3 := (bx6 h1.box).2.2.2.1))
  go_quiet (fail)
  rename_i nq
  have h2 := h1.below (below_drewN (Below.refl w1.heap.size w1) nq)
  have g2 := below_drewN (bstep gg g1) nq
  have b2 := bx_below hb (g1.trans (below_drewN (Below.refl w0.heap.size w1) nq))
  generalize w1.drewN nq = w2 at *
  have q2 := (bx6 h2.box).2.2.1
  have hz := h2.thaw
  have h3 : MlO B (w2.setCell ⟨g, 2, none⟩ (.int .i64 ((m.puts : Int) + 1))) g { m with puts := m.puts + 1 } a c S := by
    rw [show (m.puts : Int) + 1 = ((m.puts + 1 : Nat) : Int) by omega]
    exact h2.cell 2 _ { m with puts := m.puts + 1 } rfl rfl rfl hpu h.wi
  have k3 : Ch S w (w2.setCell ⟨g, 2, none⟩ (.int .i64 ((m.puts : Int) + 1))) := (Ch.of_below g2).setCell (p := ⟨g, 2, none⟩) (.inl h.sg) _
  have b3 : (w2.setCell ⟨g, 2, none⟩ (.int .i64 ((m.puts : Int) + 1))).heap[w.heap.size]? = some (.cells (frV F fa fc) 34 (0, 0)) := (Below.heap_setCell _ _ _ _ (by show w.heap.size ≠ g; omega)).trans b2
  clear q1 q3 h1 g1 x0 x1 x2 x3 x4 hm hRi
  go_wp2
  clear q2 hz h2 g2 b2
  generalize w2.setCell ⟨g, 2, none⟩ (.int .i64 ((m.puts : Int) + 1)) = w3 at *
  have hR3 := (hR _ k3).drew
  obtain ⟨x0, x1, x2, x3, x4⟩ := bx5 b3
  have q2 : w3.cell? ⟨g, 2, none⟩ = some (.int .i64 ((m.puts : Int) + 1)) := by rw [(bx6 h3.box).2.2.1, show (m.puts : Int) + 1 = ((m.puts + 1 : Nat) : Int) by omega]
  have q3 := (bx6 h3.box).2.2.2.1
  have hd3 : Below w3.heap.size w3 w3.drew := (Below.refl _ _).drew
  have hn9 : m.ws.length + 1 ≤ 1000000000 := by have := h.rm; have := HL.out; omega
  have hBw : B ≤ w3.heap.size := by have := h.hB; have := k3.size; omega
  clear he hw0 h0 hb gg
  have HS : Below w3.heap.size w3 w3.drew := hd3
  have hq2 : ∀ w', Below w3.heap.size w3 w' → w'.cell? ⟨g, 2, none⟩ = some (.int .i64 ((m.puts : Int) + 1)) := fun w' hw => (hw.cell (p := ⟨g, 2, none⟩) h3.lt).trans q2
  have hq3 : ∀ w', Below w3.heap.size w3 w' → w'.cell? ⟨g, 3, none⟩ = some (.slice a m.ws.length c) := fun w' hw => (hw.cell (p := ⟨g, 3, none⟩) h3.lt).trans q3
  clear q2 q3 x0 x1 x2 x3 x4
  refine Rest.begin (S := fun w' => Below w3.heap.size w3 w') (X := [6, 11, 13]) (by kernel_rfl) ?_
  change Rest _ _ _ _ _ _ _ _ _ w3.drew
  refine Rest.take (i := 0) (v := .pointer (some ⟨g, 0, none⟩)) rfl (by kernel_rfl) (by kernel_rfl) (by kernel_rfl) (by kernel_rfl) (fun _ _ _ h => h) (.inl HS) (Or.inl ⟨by simp [Region.wanted], ?_⟩) ?_
  · intro w; go_simp
  refine Rest.take (i := 1) (v := .pointer (some ⟨g, 0, none⟩)) rfl (by kernel_rfl) (by kernel_rfl) (by kernel_rfl) (by kernel_rfl) (fun _ _ _ h => h) (.inl HS) (Or.inl ⟨by simp [Region.wanted], ?_⟩) ?_
  · intro w; go_simp
  refine Rest.take (i := 2) (v := .pointer (some ⟨g, 0, none⟩)) rfl (by kernel_rfl) (by kernel_rfl) (by kernel_rfl) (by kernel_rfl) (fun _ _ _ h => h) (.inl HS) (Or.inl ⟨by simp [Region.wanted], ?_⟩) ?_
  · intro w; go_simp
  refine Rest.take (i := 3) (v := .pointer (some ⟨g, 3, none⟩)) rfl (by kernel_rfl) (by kernel_rfl) (by kernel_rfl) (by kernel_rfl) (fun _ _ _ h => h) (.inl HS) (Or.inl ⟨by simp [Region.wanted], ?_⟩) ?_
  · intro w; go_simp
  refine Rest.takeS (i := 4) (v := .slice a m.ws.length c) rfl (by kernel_rfl) (by kernel_rfl) (by kernel_rfl) (by kernel_rfl) (fun _ _ _ h => h) HS (.inl ⟨by simp [Region.wanted], ?_⟩) ?_
  · intro w hw; have q3 := hq3 w hw; go_simp
  refine Rest.takeS (i := 5) (v := .agg (frV F fa fc)) rfl (by kernel_rfl) (by kernel_rfl) (by kernel_rfl) (by kernel_rfl) (fun _ _ _ h => h) HS (yields_loadR rowF (by simp [Region.wanted]) _ rfl w.heap.size (by simp [Act.eval, Act.put]) _ rfl (fun w' hw => ⟨_, _, bx_below b3 hw⟩)) ?_
  refine Rest.take (i := 7) (v := .pointer (some ⟨g, 0, none⟩)) rfl (by kernel_rfl) (by kernel_rfl) (by kernel_rfl) (by kernel_rfl) (fun _ _ _ h => h) (.inl HS) (Or.inl ⟨by simp [Region.wanted], ?_⟩) ?_
  · intro w; go_simp
  refine Rest.take (i := 8) (v := .pointer (some ⟨g, 0, none⟩)) rfl (by kernel_rfl) (by kernel_rfl) (by kernel_rfl) (by kernel_rfl) (fun _ _ _ h => h) (.inl HS) (Or.inl ⟨by simp [Region.wanted], ?_⟩) ?_
  · intro w; go_simp
  refine Rest.take (i := 9) (v := .pointer (some ⟨g, 2, none⟩)) rfl (by kernel_rfl) (by kernel_rfl) (by kernel_rfl) (by kernel_rfl) (fun _ _ _ h => h) (.inl HS) (Or.inl ⟨by simp [Region.wanted], ?_⟩) ?_
  · intro w; go_simp
  refine Rest.takeS (i := 10) (v := .int .i64 ((m.puts : Int) + 1)) rfl (by kernel_rfl) (by kernel_rfl) (by kernel_rfl) (by kernel_rfl) (fun _ _ _ h => h) HS (.inl ⟨by simp [Region.wanted], ?_⟩) ?_
  · intro w hw; have q2 := hq2 w hw; go_simp
  refine Rest.one (i := 6) (by kernel_rfl) rfl (fun K hK => ?_)
  refine draw_callF 29 (by kernel_rfl) (by simp [Region.wanted]) _ _ _ rfl (by simp [Act.eval]) #[.agg (frV F fa fc)] (by simp [Act.eval, Act.put]) _ (cloneFr_any _ _ _ _ _ _ _ _ _ hR3 hlen) ?_
  rintro e w5 ⟨da, dc, rfl, o5, g5⟩
  refine ⟨_, rfl, ?_⟩
  have g35 : Below w3.heap.size w3 w5 := hd3.trans g5
  have h5 := h3.below g35
  have z5 := g35.size
  refine hK _ _ ⟨.inl g35, ?_⟩; clear hK K
  refine Rest.one (i := 11) (by kernel_rfl) rfl (fun K hK => ?_)
  rw [if_pos (by simp [Region.wanted])]
  go_simp
  refine hK _ _ ⟨.inl g35, ?_⟩; clear hK K
  refine Rest.one (i := 12) (by kernel_rfl) rfl (fun K hK => ?_)
  rw [if_pos (by simp [Region.wanted])]
  go_simp
  refine hK _ _ ⟨.inl (g35.alloc z5 _), ?_⟩; clear hK K
  have hB5 : B ≤ (w5.alloc (.cells #[.int .u32 (F.id : Int), .bool F.ext, .bool F.rem, .int .u8 (F.dlc : Int), .slice da F.data.length dc, .int .i64 ((m.puts : Int) + 1)] 65)).heap.size := by rw [heap_size_alloc]; omega
  have hown5 := h5.row.alloc (.cells #[.int .u32 (F.id : Int), .bool F.ext, .bool F.rem, .int .u8 (F.dlc : Int), .slice da F.data.length dc, .int .i64 ((m.puts : Int) + 1)] 65)
  have hsrc : RK enW 6 (w5.alloc (.cells #[.int .u32 (F.id : Int), .bool F.ext, .bool F.rem, .int .u8 (F.dlc : Int), .slice da F.data.length dc, .int .i64 ((m.puts : Int) + 1)] 65)) (some ⟨w5.heap.size, 0, none⟩) 1 1 [((F, (da, dc)), m.puts + 1)] := (ok_lit enW_k 65 0 w5 [((F, (da, dc)), m.puts + 1)] _ 1 (by simp [enW]) rfl (by omega) (Nat.zero_le _)).rk enW_k
  refine Rest.one (i := 13) (by kernel_rfl) rfl (fun K hK => ?_)
  refine step_appgK elW enW_k rfl (.tmp 36) (.tmp 44) rfl rfl hown5 rfl hsrc (by omega) hn9 (by omega) hB5 ?_
  rintro w7 a7 c7 o7 g7 k7 s7
  refine hK _ _ ⟨.inr (thru_of (by kernel_rfl)), Rest.of_any _ _ _ _ (thru_of (by kernel_rfl)) ?_⟩; clear hK K
  have hfin := put_fin h3 k3.size hgB h.sL k3 hi hd hlen HL.out hpu g35 (o5.mono (by simp)) o7 g7 k7 s7
  have hng7 := (k7 g (by have := h5.lt; rw [heap_size_alloc]; omega) h3.ng)
  have hb7 : w7.heap[g]? = some (.cells (mlV g { m with puts := m.puts + 1 } a c) 49 (0, 0)) := hng7.1.trans (h5.alloc _).box
  have hz7 := bx_thaw hb7
  have q37 := (bx6 hb7).2.2.2.1
  have q27 : w7.cell? ⟨g, 2, none⟩ = some (.int .i64 ((m.puts : Int) + 1)) := by rw [(bx6 hb7).2.2.1, show (m.puts : Int) + 1 = ((m.puts + 1 : Nat) : Int) by omega]
  refine wpAny_take (i := 14) (v := .pointer (some ⟨g, 0, none⟩)) rfl (by kernel_rfl) (by kernel_rfl) (by kernel_rfl) (fun _ _ _ h => h) (Or.inl ⟨by simp [Region.wanted], ?_⟩) ?_
  · intro w; go_simp
  refine wpAny_take (i := 15) (v := .pointer (some ⟨g, 3, none⟩)) rfl (by kernel_rfl) (by kernel_rfl) (by kernel_rfl) (fun _ _ _ h => h) (Or.inl ⟨by simp [Region.wanted], ?_⟩) ?_
  · intro w; go_simp
  refine wpAny_ready (rs := [16]) (by kernel_rfl) (by simp) ?_
  refine AllReady.cons rfl (fun K hK => ?_) AllReady.nil
  rw [if_pos (by simp [Region.wanted])]
  go_simp
  refine hK _ _ ?_; clear hK K
  refine wpAny_done (by kernel_rfl) ?_ _
  clear HS hq2 hq3 h3 h5 g35 o5 o7 g7 k7 s7 hown5 hsrc
  go_wp2
  go_ret2
  exact ⟨_, _, _, _, _, rfl, hfin.1, hfin.2, fun b hb => hb.imp id fun x => x.1⟩
end
end Go.Proofs.Ytffbkcjkmhjfnaa

namespace Go.Proofs.Ytffbkcjkmhjfnaa
open Go.RowKit Go.Sort
set_option linter.unusedVariables false

section
variable {B : Nat} {w w1 w2 w3 : World} {g : Nat} {m m1 m2 : Ml} {a : Option Addr} {c : Nat} {S : Nat → Prop}

/-- A new mail. -/
def neM (room : Nat) : Ml := ⟨room, 0, [], 0, false⟩
theorem neM_I (room : Nat) : MlI (neM room) := ⟨.inl rfl, fun h => (by cases h), fun p hp => (by cases hp), List.Pairwise.nil⟩

set_option maxRecDepth 100000 in
set_option maxHeartbeats 1000000 in
theorem new_wrong (w : World) (room : Int) (h : room < 1 ∨ 256 < room) :
    Calls Try.prog 4 #[.int .i64 room] w fun e w' => e = .returned (.tuple #[.pointer none, .int .i64 2]) ∧ w = w' := by
  rcases h with h | h
  · go_enter Try.func4, Try.ntmps4
    go_wp2
    go_ret2
    exact ⟨rfl, rfl⟩
  · have h1 : ¬ room < 1 := by omega
    go_enter Try.func4, Try.ntmps4
    go_wp2
    go_ret2
    exact ⟨rfl, rfl⟩

set_option maxRecDepth 100000 in
set_option maxHeartbeats 1000000 in
theorem mlNew_any (w : World) (room : Nat) (h1 : 1 ≤ room) (h2 : room ≤ 256) :
    Calls Try.prog 4 #[.int .i64 (room : Int)] w fun e w' => ∃ g, e = .returned (.tuple #[.pointer (some ⟨g, 0, none⟩), .int .i64 0]) ∧ MlO w.heap.size w' g (neM room) none 0 (fun b => b = g) ∧ w.heap.size ≤ g ∧ Below w.heap.size w w' := by
  have i1 : ¬ (room : Int) < 1 := by omega
  have i2 : ¬ (256 : Int) < (room : Int) := by omega
  go_enter Try.func4, Try.ntmps4
  go_wp2
  go_ret2
  exact ⟨w.heap.size, rfl, ⟨heap_alloc_new w _, OK.nil _ _ _ _ _, fun p hp => (by cases hp), Nat.le_refl _, rfl, fun q hq => (by cases hq), fun p hp => (by cases hp), fun b hb => (by subst hb; exact Nat.le_refl _), NB.nil _, fun p hp => (by cases hp), by show room ≤ 1000; omega, Nat.zero_le _, by show 0 < _; omega, by show 0 < _; omega, fun b hb => (by subst hb; simp)⟩, Nat.le_refl _, bnew0 w _⟩

set_option maxRecDepth 100000 in
set_option maxHeartbeats 1000000 in
theorem abort_no (h : MlO B w g m a c S) (N : Int) (hN : hasW N m.ws = false) :
    Calls Try.prog 19 #[.pointer (some ⟨g, 0, none⟩), .int .i64 N] w fun e w' => e = .returned (.tuple #[.bool false, .int .i64 100]) ∧ Below w.heap.size w w' := by
  have hm := mlMade_any h
  have hw := waits_any h N
  rw [hN] at hw
  clear hN
  go_enter Try.func19, Try.ntmps19
  go_wp2_with (first
    | (go_at_call 27; (refine hm.mono ?_); rintro e w1 ⟨rfl, rfl⟩)
    | (go_at_call 11; (refine hw.mono ?_); rintro e w1 ⟨rfl, g1⟩))
  go_ret2
  exact ⟨rfl, g1⟩

set_option maxRecDepth 100000 in
set_option maxHeartbeats 1000000 in
theorem abort_wire (h : MlO B w g m a c S) (hN : hasW (m.wire : Int) m.ws = true) :
    Calls Try.prog 19 #[.pointer (some ⟨g, 0, none⟩), .int .i64 (m.wire : Int)] w fun e w' => e = .returned (.tuple #[.bool false, .int .i64 0]) ∧ Mle B w g { m with ab := true } a c S w' := by
  have hm := mlMade_any h
  have hw := waits_any h (m.wire : Int)
  rw [hN] at hw
  clear hN
  go_enter Try.func19, Try.ntmps19
  go_wp2_with (first
    | (go_at_call 27; (refine hm.mono ?_); rintro e w1 ⟨rfl, rfl⟩)
    | (go_at_call 11; (refine hw.mono ?_); rintro e w1 ⟨rfl, g1⟩
       have h1 := h.below g1
       have q4 := (bx6 h1.box).2.2.2.2.1
       have q5 := (bx6 h1.box).2.2.2.2.2
       have hz := h1.thaw
       have he : ((m.wire : Int) == (m.wire : Int)) = true := by simp))
  go_ret2
  exact ⟨rfl, h1.cell 5 (.bool true) { m with ab := true } rfl rfl rfl h.pu h.wi, ((Ch.refl S w).call g1).setCell (p := ⟨g, 5, none⟩) (.inl h.sg) _⟩

set_option maxRecDepth 100000 in
set_option maxHeartbeats 1000000 in
theorem abort_yes (h : MlO B w g m a c S) (N : Nat) (hN : hasW (N : Int) m.ws = true) (hne : N ≠ m.wire) :
    Calls Try.prog 19 #[.pointer (some ⟨g, 0, none⟩), .int .i64 (N : Int)] w fun e w' => e = .returned (.tuple #[.bool true, .int .i64 0]) ∧ Mle B w g (rmM N m) a c S w' := by
  have hm := mlMade_any h
  have hw := waits_any h (N : Int)
  rw [hN] at hw
  have hx : ∃ p ∈ m.ws, p.2 = N := by obtain ⟨p, h1, h2⟩ := hasW_yes hN; exact ⟨p, h1, by omega⟩
  have he : ((N : Int) == (m.wire : Int)) = false := by rw [beq_eq_false_iff_ne]; omega
  clear hN hne
  go_enter Try.func19, Try.ntmps19
  go_wp2_with (first
    | (go_at_call 27; (refine hm.mono ?_); rintro e w1 ⟨rfl, rfl⟩)
    | (go_at_call 11; (refine hw.mono ?_); rintro e w1 ⟨rfl, g1⟩
       have h1 := h.below g1
       have q4 := (bx6 h1.box).2.2.2.2.1)
    | (go_at_call 33; (refine (remove_any h1 N hx).mono ?_); rintro e w2 ⟨rfl, o2, k2⟩))
  go_ret2
  exact ⟨rfl, o2, ((Ch.refl S w).call g1).trans k2 fun b hb => .inl hb⟩
end
end Go.Proofs.Ytffbkcjkmhjfnaa

namespace Go.Proofs.Ytffbkcjkmhjfnaa
open Go.RowKit Go.Sort
set_option linter.unusedVariables false

theorem results_row_mid {P : Program} {T : TypeId} {n : Nat} (hT : RowT P T n) {fn : Func} {p q r : Tmp} (h : fn.results = #[.tmp p, .cell q T, .tmp r]) (tmps : Array Value) (w : World) (g : Nat) {t : TypeId} {cs : Array Value} {fr : Nat × Nat} {u v : Value}
    (hp : tmps.getD p undef = u) (hq : tmps.getD q undef = .pointer (some ⟨g, 0, none⟩)) (hr : tmps.getD r undef = v) (hg : w.heap[g]? = some (.cells cs t fr)) (hn : cs.size = n) :
    (results fn tmps).run P w = .ok (.tuple #[u, .agg cs, v]) w := by
  obtain ⟨d, hu, hd⟩ := hT.und
  have hp' : tmps[p]?.getD undef = u := by simpa using hp
  have hq' : tmps[q]?.getD undef = .pointer (some ⟨g, 0, none⟩) := by simpa using hq
  have hr' : tmps[r]?.getD undef = v := by simpa using hr
  have e1 := run_loadVar_row (P := P) w g t T cs fr d hg hu (by cases d <;> simp_all) (by rw [hT.size, hn])
  simp [results, h, hp', hq', hr', asAddr, e1]

abbrev frZr : Array Value := #[.int .u32 0, .bool false, .bool false, .int .u8 0, .slice none 0 0]
theorem set5b_same {w1 : World} {g : Nat} {T : TypeId} {u0 u1 u2 u3 u4 : Value} (h : w1.heap[g]? = some (.cells #[u0, u1, u2, u3, u4] T (0, 0))) (v0 v1 v2 v3 v4 : Value) :
    (((((w1.setCell ⟨g, 0, none⟩ v0).setCell ⟨g, 1, none⟩ v1).setCell ⟨g, 2, none⟩ v2).setCell ⟨g, 3, none⟩ v3).setCell ⟨g, 4, none⟩ v4).heap[g]? = some (.cells #[v0, v1, v2, v3, v4] T (0, 0)) :=
  heap_setCell_same _ g 4 _ _ _ (heap_setCell_same _ g 3 _ _ _ (heap_setCell_same _ g 2 _ _ _ (heap_setCell_same _ g 1 _ _ _ (heap_setCell_same _ g 0 _ _ _ h))))
theorem set5b_other {w1 : World} {g k : Nat} (h : k ≠ g) (v0 v1 v2 v3 v4 : Value) :
    (((((w1.setCell ⟨g, 0, none⟩ v0).setCell ⟨g, 1, none⟩ v1).setCell ⟨g, 2, none⟩ v2).setCell ⟨g, 3, none⟩ v3).setCell ⟨g, 4, none⟩ v4).heap[k]? = w1.heap[k]? := by
  rw [Below.heap_setCell _ _ _ _ h, Below.heap_setCell _ _ _ _ h, Below.heap_setCell _ _ _ _ h, Below.heap_setCell _ _ _ _ h, Below.heap_setCell _ _ _ _ h]
theorem set5b_below {B : Nat} {w w1 : World} {g : Nat} (h : Below B w w1) (hg : B ≤ g) (v0 v1 v2 v3 v4 : Value) :
    Below B w (((((w1.setCell ⟨g, 0, none⟩ v0).setCell ⟨g, 1, none⟩ v1).setCell ⟨g, 2, none⟩ v2).setCell ⟨g, 3, none⟩ v3).setCell ⟨g, 4, none⟩ v4) :=
  ((((h.setCell hg _).setCell hg _).setCell hg _).setCell hg _).setCell hg _

section
variable {B : Nat} {w w1 w2 w3 : World} {g : Nat} {m m1 m2 : Ml} {a : Option Addr} {c : Nat} {S : Nat → Prop}

set_option maxRecDepth 100000 in
set_option maxHeartbeats 1000000 in
theorem best_no (h : MlO B w g m a c S) (h0 : m.ws = []) :
    Calls Try.prog 7 #[.pointer (some ⟨g, 0, none⟩)] w fun e w' => e = .returned (.tuple #[.int .i64 0, .agg frZr, .bool false]) ∧ Below w.heap.size w w' := by
  obtain ⟨w0, hw0, h0', hb, gg⟩ : ∃ w0, Hid (w.alloc (.cells frZr 34) = w0) ∧ MlO B w0 g m a c S ∧ w0.heap[w.heap.size]? = some (.cells frZr 34 (0, 0)) ∧ Below w.heap.size w w0 := ⟨_, rfl, h.alloc _, heap_alloc_new w _, bnew0 w _⟩
  have q3 := (bx6 h0'.box).2.2.2.1
  have hm := mlMade_any h0'
  rw [h0] at q3
  clear h0
  go_enter Try.func7, Try.ntmps7
  go_wp2_with (first
    | (go_at_call 27; rw [hw0.out]; (refine hm.mono ?_); rintro e w1 ⟨rfl, rfl⟩)
    | (with_reducible refine wpList_storeR rowF rfl _ _ rfl _ _ rfl rfl hb rfl rfl (by kernel_rfl) ?_))
  exact bodyPost_ret (v := .tuple #[.int .i64 0, .agg frZr, .bool false]) (results_row_mid rowF rfl _ _ _ rfl rfl rfl (setRow_heap _ _ _ _ _ _ hb) rfl) rfl ⟨rfl, below_setRow gg (Nat.le_refl _) _⟩

set_option maxRecDepth 100000 in
set_option maxHeartbeats 4000000 in
theorem best_any (h : MlO B w g m a c S) (p : Wt) (hp : beM m = some p) :
    Calls Try.prog 7 #[.pointer (some ⟨g, 0, none⟩)] w fun e w' => ∃ da dc, e = .returned (.tuple #[.int .i64 (p.2 : Int), .agg (frV p.1.1 da dc), .bool true]) ∧ OL bv 5 w.heap.size w' da p.1.1.data.length dc p.1.1.data ∧ Below w.heap.size w w' := by
  obtain ⟨w0, hw0, h0, hb, gg⟩ : ∃ w0, Hid (w.alloc (.cells frZr 34) = w0) ∧ MlO B w0 g m a c S ∧ w0.heap[w.heap.size]? = some (.cells frZr 34 (0, 0)) ∧ Below w.heap.size w w0 := ⟨_, rfl, h.alloc _, heap_alloc_new w _, bnew0 w _⟩
  have q3 := (bx6 h0.box).2.2.2.1
  have hm := mlMade_any h0
  have hf := first_any h0 p hp
  have hmem := beM_num hp
  have hl := List.length_pos_of_mem hmem
  have hne : ((m.ws.length : Int) == 0) = false := by rw [beq_eq_false_iff_ne]; omega
  have hwt := h.wt p hmem
  have hdl := hwt.len
  have z0 : w.heap.size + 1 ≤ w0.heap.size := by have := bx_lt hb; omega
  clear hp hmem hl
  go_enter Try.func7, Try.ntmps7
  go_wp2_with (first
    | (go_at_call 27; rw [hw0.out]; (refine hm.mono ?_); rintro e w1 ⟨rfl, rfl⟩)
    | (go_at_call 28; (refine hf.mono ?_); rintro e w1 ⟨rfl, g1⟩
       have b1 := bx_alloc (.cells wtZ 65) (bx_below hb g1)
       have c1 := heap_alloc_new w1 (.cells wtZ 65)
       have z1 := g1.size)
    | (with_reducible refine wpList_storeR rowW rfl _ _ rfl _ _ rfl rfl c1 rfl rfl (wt_ones _) ?_))
  have c2 : ((w1.alloc (.cells wtZ 65)).setRow w1.heap.size (wtV p)).heap[w1.heap.size]? = some (.cells (wtV p) 65 (0, 0)) := setRow_heap _ _ _ _ _ _ c1
  have b2 : ((w1.alloc (.cells wtZ 65)).setRow w1.heap.size (wtV p)).heap[w.heap.size]? = some (.cells frZr 34 (0, 0)) := (setRow_other _ _ _ _ (by omega)).trans b1
  have g2 : Below w.heap.size w ((w1.alloc (.cells wtZ 65)).setRow w1.heap.size (wtV p)) := below_setRow (bnew (bstep gg g1) _) (by omega) _
  have z2 : w.heap.size + 1 ≤ ((w1.alloc (.cells wtZ 65)).setRow w1.heap.size (wtV p)).heap.size := by simp; omega
  have hK : w.heap.size < w1.heap.size := by omega
  clear b1 c1 q3 hm hf hw0 h0 hb gg g1 z0 z1
  generalize (w1.alloc (.cells wtZ 65)).setRow w1.heap.size (wtV p) = w2 at *
  obtain ⟨x0, x1, x2, x3, x4, x5⟩ := bx6 c2
  have hrd := (hwt.dat.below g2).drew
  have hd2 : Below w2.heap.size w2 w2.drew := (Below.refl _ _).drew
  go_region_law (first
    | (go_simp; go_at_call 29; refine (cloneFr_any _ _ _ _ _ _ _ _ _ hrd hdl).mono ?_; rintro e w5 ⟨da, dc, rfl, o5, g5⟩
       have g25 : Below w2.heap.size w2 w5 := hd2.trans g5
       have c5 := bx_below c2 g25
       have b5 := bx_below b2 g25
       obtain ⟨y0, y1, y2, y3, y4, y5⟩ := bx6 c5
       obtain ⟨u0, u1, u2, u3, u4⟩ := bx5 b5
       have hf5 := bx_thaw b5
       have gg5 := bstep g2 g25
       have hne5 : w1.heap.size ≠ w.heap.size := by omega
       have o6 := (o5.mono (show w.heap.size + 1 ≤ _ from z2)).kept (w' := (((((w5.setCell ⟨w.heap.size, 0, none⟩ (.int .u32 (p.1.1.id : Int))).setCell ⟨w.heap.size, 1, none⟩ (.bool p.1.1.ext)).setCell ⟨w.heap.size, 2, none⟩ (.bool p.1.1.rem)).setCell ⟨w.heap.size, 3, none⟩ (.int .u8 (p.1.1.dlc : Int))).setCell ⟨w.heap.size, 4, none⟩ (.slice da p.1.1.data.length dc))) (fun k hk => set5b_other (by have := (o5.ltB hk).2; dsimp only at this; have := z2; have : w2.drew.heap.size = w2.heap.size := rfl; omega) _ _ _ _ _)))
  all_goals
    go_wp2
    exact bodyPost_ret (v := .tuple #[.int .i64 (p.2 : Int), .agg (frV p.1.1 da dc), .bool true]) (results_row_mid rowF rfl _ _ _ rfl rfl rfl (set5b_same b5 _ _ _ _ _) rfl) rfl ⟨da, dc, rfl, o6.mono (by omega), set5b_below gg5 (Nat.le_refl _) _ _ _ _ _⟩
end
end Go.Proofs.Ytffbkcjkmhjfnaa

namespace Go.Proofs.Ytffbkcjkmhjfnaa
open Go.RowKit Go.Sort
set_option linter.unusedVariables false

def bsF (id : Nat) : Fr := ⟨id, false, false, 0, []⟩
theorem base10_any (w : World) (id : Nat) : Calls Try.prog 16 #[.int .u32 (id : Int)] w fun e w' => e = .returned (.agg #[.int .u32 (id : Int), .bool false, .bool false, .int .u8 0, .slice none 0 0]) ∧ Below w.heap.size w w' := by
  have hb := heap_alloc_new w (.cells frZr 34)
  go_enter Try.func16, Try.ntmps16
  go_wp2_with (with_reducible refine wpList_storeR rowF rfl _ _ rfl _ _ rfl rfl hb rfl rfl (by kernel_rfl) ?_)
  exact bodyPost_ret (v := .agg #[.int .u32 (id : Int), .bool false, .bool false, .int .u8 0, .slice none 0 0]) (results_row rowF rfl _ _ _ rfl (setRow_heap _ _ _ _ _ _ hb) rfl) rfl ⟨rfl, below_setRow (bnew0 w _) (Nat.le_refl _) _⟩
theorem aw_base (w : World) : (Calls Try.prog 16 #[.int .u32 1] w fun e w' => e = .returned (.agg #[.int .u32 1, .bool false, .bool false, .int .u8 0, .slice none 0 0]) ∧ Below w.heap.size w w') ∧
    (Calls Try.prog 16 #[.int .u32 5] w fun e w' => e = .returned (.agg #[.int .u32 5, .bool false, .bool false, .int .u8 0, .slice none 0 0]) ∧ Below w.heap.size w w') ∧
    (Calls Try.prog 16 #[.int .u32 3] w fun e w' => e = .returned (.agg #[.int .u32 3, .bool false, .bool false, .int .u8 0, .slice none 0 0]) ∧ Below w.heap.size w w') := ⟨base10_any w 1, base10_any w 5, base10_any w 3⟩
theorem aw_key (w : World) : (Calls Try.prog 14 #[.agg #[.int .u32 1, .bool false, .bool false, .int .u8 0, .slice none 0 0]] w fun e w' => e = .returned (.int .u32 2097152) ∧ Below w.heap.size w w') ∧
    (Calls Try.prog 14 #[.agg #[.int .u32 1, .bool false, .bool true, .int .u8 0, .slice none 0 0]] w fun e w' => e = .returned (.int .u32 3145728) ∧ Below w.heap.size w w') ∧
    (Calls Try.prog 14 #[.agg #[.int .u32 262144, .bool true, .bool false, .int .u8 0, .slice none 0 0]] w fun e w' => e = .returned (.int .u32 3670016) ∧ Below w.heap.size w w') := by
  have h1 := key_any w 1 false false 0 none 0 0 (by omega)
  have h2 := key_any w 1 false true 0 none 0 0 (by omega)
  have h3 := key_any w 262144 true false 0 none 0 0 (by omega)
  rw [key_base] at h1 h2
  rw [key_ext] at h3
  exact ⟨h1, h2, h3⟩

section
variable {B : Nat} {w : World} {g : Nat} {a : Option Addr} {c : Nat} {S : Nat → Prop} (d1 : Option Addr) (k1 : Nat) (d2 : Option Addr) (k2 : Nat)
def awM1 : Ml := ⟨2, 1, [((bsF 5, (d1, k1)), 1)], 0, false⟩
def awM2 : Ml := ⟨2, 2, [((bsF 5, (d1, k1)), 1), ((bsF 3, (d2, k2)), 2)], 0, false⟩
def awM3 : Ml := ⟨2, 2, [((bsF 5, (d1, k1)), 1), ((bsF 3, (d2, k2)), 2)], 2, false⟩
def awM4 : Ml := ⟨2, 2, [((bsF 5, (d1, k1)), 1), ((bsF 3, (d2, k2)), 2)], 2, true⟩
def awM5 : Ml := ⟨2, 2, [((bsF 3, (d2, k2)), 2)], 2, true⟩
def awM6 : Ml := ⟨2, 2, [], 0, false⟩

theorem rl0 (w : World) : RL bv w none ([] : List UInt8).length 0 [] := RL.nil _ _ _ _

theorem aw_new (w : World) : Calls Try.prog 4 #[.int .i64 2] w fun e w' => ∃ g, e = .returned (.tuple #[.pointer (some ⟨g, 0, none⟩), .int .i64 0]) ∧ MlO w.heap.size w' g (neM 2) none 0 (fun b => b = g) ∧ w.heap.size ≤ g ∧ Below w.heap.size w w' := mlNew_any w 2 (by omega) (by omega)

theorem aw_put1 (h : MlO B w g (neM 2) a c S) : Calls Try.prog 17 #[.pointer (some ⟨g, 0, none⟩), .agg #[.int .u32 5, .bool false, .bool false, .int .u8 0, .slice none 0 0]] w fun e w' =>
    ∃ a' c' S' d1 k1, e = .returned (.tuple #[.int .i64 1, .int .i64 0]) ∧ MlO B w' g (awM1 d1 k1) a' c' S' ∧ Ch S w w' ∧ (∀ b, S' b → S b ∨ w.heap.size ≤ b) :=
  mlPut_any h (bsF 5) none 0 (by decide) (by decide) (by decide) (by decide) (by decide) (fun w' _ => rl0 w') (by decide)
theorem aw_put2 (h : MlO B w g (awM1 d1 k1) a c S) : Calls Try.prog 17 #[.pointer (some ⟨g, 0, none⟩), .agg #[.int .u32 3, .bool false, .bool false, .int .u8 0, .slice none 0 0]] w fun e w' =>
    ∃ a' c' S' d2 k2, e = .returned (.tuple #[.int .i64 2, .int .i64 0]) ∧ MlO B w' g (awM2 d1 k1 d2 k2) a' c' S' ∧ Ch S w w' ∧ (∀ b, S' b → S b ∨ w.heap.size ≤ b) :=
  mlPut_any h (bsF 3) none 0 (by decide) (by decide) (by decide) (by simp [awM1]) (by simp [awM1]) (fun w' _ => rl0 w') (by decide)
theorem aw_put3 (h : MlO B w g (awM2 d1 k1 d2 k2) a c S) : Calls Try.prog 17 #[.pointer (some ⟨g, 0, none⟩), .agg #[.int .u32 1, .bool false, .bool false, .int .u8 0, .slice none 0 0]] w fun e w' =>
    e = .returned (.tuple #[.int .i64 0, .int .i64 5]) ∧ Below w.heap.size w w' :=
  put_full h (bsF 1) none 0 (by decide) (by decide) (by decide) rfl
theorem aw_be2 : beM (awM2 d1 k1 d2 k2) = some ((bsF 3, (d2, k2)), 2) := by
  have e : keyF 3 false false < keyF 5 false false := by rw [key_base, key_base]; decide
  simp [beM, awM2, miW, kyW, bsF, e]
theorem aw_best (h : MlO B w g (awM2 d1 k1 d2 k2) a c S) : Calls Try.prog 7 #[.pointer (some ⟨g, 0, none⟩)] w fun e w' => ∃ da dc, e = .returned (.tuple #[.int .i64 2, .agg #[.int .u32 3, .bool false, .bool false, .int .u8 0, .slice da 0 dc], .bool true]) ∧ Below w.heap.size w w' :=
  (best_any h _ (aw_be2 d1 k1 d2 k2)).mono fun e w' ⟨da, dc, h1, h2, h3⟩ => ⟨da, dc, h1, h3⟩
theorem aw_mStart (h : MlO B w g (awM2 d1 k1 d2 k2) a c S) : Calls Try.prog 18 #[.pointer (some ⟨g, 0, none⟩)] w fun e w' => e = .returned (.tuple #[.int .i64 2, .bool true]) ∧ Mle B w g (awM3 d1 k1 d2 k2) a c S w' :=
  start_any h _ (aw_be2 d1 k1 d2 k2)
theorem aw_abort2 (h : MlO B w g (awM3 d1 k1 d2 k2) a c S) : Calls Try.prog 19 #[.pointer (some ⟨g, 0, none⟩), .int .i64 2] w fun e w' => e = .returned (.tuple #[.bool false, .int .i64 0]) ∧ Mle B w g (awM4 d1 k1 d2 k2) a c S w' :=
  abort_wire h (hasW_of (p := ((bsF 3, (d2, k2)), 2)) (by simp [awM3]) rfl)
theorem aw_abort1 (h : MlO B w g (awM4 d1 k1 d2 k2) a c S) : Calls Try.prog 19 #[.pointer (some ⟨g, 0, none⟩), .int .i64 1] w fun e w' => e = .returned (.tuple #[.bool true, .int .i64 0]) ∧ Mle B w g (awM5 d2 k2) a c S w' :=
  abort_yes h 1 (hasW_of (p := ((bsF 5, (d1, k1)), 1)) (by simp [awM4]) rfl) (by simp [awM4])
theorem aw_lost (h : MlO B w g (awM5 d2 k2) a c S) : Calls Try.prog 20 #[.pointer (some ⟨g, 0, none⟩)] w fun e w' => e = .returned (.tuple #[]) ∧ Mle B w g awM6 a c S w' :=
  lost_any h ⟨.inr ⟨((bsF 3, (d2, k2)), 2), by simp [awM5], rfl⟩, fun _ => by simp [awM5], fun p hp => by simp [awM5] at hp; subst hp; simp [awM5], by simp [awM5]⟩
theorem aw_sent (h : MlO B w g awM6 a c S) : Calls Try.prog 21 #[.pointer (some ⟨g, 0, none⟩)] w fun e w' => e = .returned (.tuple #[.int .i64 0, .bool false]) ∧ Mle B w g awM6 a c S w' :=
  sent_any h ⟨.inl rfl, fun h => (by cases h), fun p hp => (by cases hp), List.Pairwise.nil⟩
theorem aw_len (h : MlO B w g awM6 a c S) : Calls Try.prog 10 #[.pointer (some ⟨g, 0, none⟩)] w fun e w' => e = .returned (.int .i64 0) ∧ w = w' := mlen_any h
end

set_option maxRecDepth 100000 in
set_option maxHeartbeats 8000000 in
theorem awake10_any (w : World) : Calls Try.prog 5 #[] w fun e w' => e = .returned (.bool true) ∧ Below w.heap.size w w' := by
  go_enter Try.func5, Try.ntmps5
  go_wp2_with (first
    | (go_at_call 4; (with_reducible refine (aw_new _).mono ?_); rintro e w1 ⟨g, rfl, h1, l1, g1⟩)
    | (go_at_call 16; (with_reducible refine (aw_base w1).1.mono ?_); rintro e w2 ⟨rfl, g2⟩)
    | (go_at_call 14; (with_reducible refine (aw_key w2).1.mono ?_); rintro e w3 ⟨rfl, g3⟩)
    | (go_at_call 14; (with_reducible refine (aw_key w3).2.1.mono ?_); rintro e w4 ⟨rfl, g4⟩)
    | (go_at_call 14; (with_reducible refine (aw_key w4).2.2.mono ?_); rintro e w5 ⟨rfl, g5⟩; have h5 := (((h1.below g2).below g3).below g4).below g5; have gg5 := bstep (bstep (bstep (bstep g1 g2) g3) g4) g5; clear g1 g2 g3 g4 g5 h1)
    | (go_at_call 16; (with_reducible refine (aw_base w5).2.1.mono ?_); rintro e w6 ⟨rfl, g6⟩; have h6 := h5.below g6; have gg6 := bstep gg5 g6; clear h5 gg5 g6)
    | (go_at_call 17; (with_reducible refine (aw_put1 h6).mono ?_); rintro e w7 ⟨a7, c7, S7, d1, k1, rfl, h7, r7, s7⟩; have gg7 := r7.below gg6 (Nat.le_refl _) h6.sB; clear h6 gg6 r7 s7)
    | (go_at_call 16; (with_reducible refine (aw_base w7).2.2.mono ?_); rintro e w8 ⟨rfl, g8⟩; have h8 := h7.below g8; have gg8 := bstep gg7 g8; clear h7 gg7 g8)
    | (go_at_call 17; (with_reducible refine (aw_put2 _ _ h8).mono ?_); rintro e w9 ⟨a9, c9, S9, d2, k2, rfl, h9, r9, s9⟩; have gg9 := r9.below gg8 (Nat.le_refl _) h8.sB; clear h8 gg8 r9 s9)
    | (go_at_call 16; (with_reducible refine (aw_base w9).1.mono ?_); rintro e w10 ⟨rfl, g10⟩; have h10 := h9.below g10; have gg10 := bstep gg9 g10; clear h9 gg9 g10)
    | (go_at_call 17; (with_reducible refine (aw_put3 _ _ _ _ h10).mono ?_); rintro e w11 ⟨rfl, g11⟩; have h11 := h10.below g11; have gg11 := bstep gg10 g11; clear h10 gg10 g11)
    | (go_at_call 7; (with_reducible refine (aw_best _ _ _ _ h11).mono ?_); rintro e w12 ⟨da, dc, rfl, g12⟩
       have h12 := h11.below g12
       have gg12 := bstep gg11 g12
       have b12 := heap_alloc_new w12 (.cells frZr 34)
       have k13 : Below w12.heap.size w12 ((w12.alloc (.cells frZr 34)).setRow w12.heap.size #[.int .u32 3, .bool false, .bool false, .int .u8 0, .slice da 0 dc]) := below_setRow (bnew0 w12 _) (Nat.le_refl _) _
       have h13 := h12.below k13
       have gg13 := bstep gg12 k13
       clear h11 gg11 g12 h12 gg12 k13)
    | (with_reducible refine wpList_storeR rowF rfl _ _ rfl _ _ rfl rfl b12 rfl rfl (by kernel_rfl) ?_)
    | (go_at_call 18; (with_reducible refine (aw_mStart _ _ _ _ h13).mono ?_); rintro e w14 ⟨rfl, h14, r14⟩; have gg14 := r14.below gg13 (Nat.le_refl _) h13.sB; clear h13 gg13 r14 b12)
    | (go_at_call 19; (with_reducible refine (aw_abort2 _ _ _ _ h14).mono ?_); rintro e w15 ⟨rfl, h15, r15⟩; have gg15 := r15.below gg14 (Nat.le_refl _) h14.sB; clear h14 gg14 r15)
    | (go_at_call 19; (with_reducible refine (aw_abort1 _ _ _ _ h15).mono ?_); rintro e w16 ⟨rfl, h16, r16⟩; have gg16 := r16.below gg15 (Nat.le_refl _) h15.sB; clear h15 gg15 r16)
    | (go_at_call 20; (with_reducible refine (aw_lost _ _ h16).mono ?_); rintro e w17 ⟨rfl, h17, r17⟩; have gg17 := r17.below gg16 (Nat.le_refl _) h16.sB; clear h16 gg16 r17)
    | (go_at_call 21; (with_reducible refine (aw_sent h17).mono ?_); rintro e w18 ⟨rfl, h18, r18⟩; have gg18 := r18.below gg17 (Nat.le_refl _) h17.sB; clear h17 gg17 r18)
    | (go_at_call 10; (with_reducible refine (aw_len h18).mono ?_); rintro e w19 ⟨rfl, rfl⟩))
  go_ret
  exact ⟨rfl, gg18⟩
end Go.Proofs.Ytffbkcjkmhjfnaa
