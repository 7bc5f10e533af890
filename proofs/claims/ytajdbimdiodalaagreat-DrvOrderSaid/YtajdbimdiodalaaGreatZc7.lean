/-
  Texts of this place, put together: B10n, B11c, B12d, B14, B14b, LdM, B14c, B12f. What stands here is used by the statement; conditions: none of their own.
-/
import Derived.Test.YtajdbimdiodalaaGreatZc6
import Derived.Deep.RegionLaw
import Derived.Test.YtajdbimdiodalaaGreatRows
import Derived.Laws.BitsAllLaws
import Derived.Lib.QuietBelow
import Derived.BigQuiet
import Derived.Deep.QuietTactic
import Derived.Deep.RegionHeld3
import Derived.WalkSmall
import Derived.LaidEqlPtr
import Derived.Deep.DeepCutAuto
import Derived.Defers
namespace Go.Proofs.YtajdbimdiodalaaGreat
open Go.RowKit Go.Sort
set_option linter.unusedVariables false

theorem step_appgK {P : Program} {T E : TypeId} {k : Nat} {z : Value} {bytes : Nat} {α : Type} {enc : α → List Value} {B : Nat} {w : World} {a : Option Addr} {n c : Nat} {l m : List α} {ops : Array Oper} {o : Oper} {ac : Act} {K : Act → World → Prop} {Q : Exit → Act → World → Prop} {R : Prop}
    (hT : ElK P T E k z bytes) (hk : EnK enc k) (hgd : o.guard = none) (s x : Operand)
    (ho : o.op = .call { callee := .builtin .append, args := #[s, x], argTypes := #[T, T] })
    {a2 : Option Addr} {n2 c2 : Nat} (hs : ac.eval s = .slice a n c) (hown : OK enc k E B w a n c l) (hx : ac.eval x = .slice a2 n2 c2) (hr : RK enc k w a2 n2 c2 m) (h0 : 0 < n2)
    (h63 : n + n2 ≤ 1000000000) (hby : bytes ≤ 64) (hbase : B ≤ w.heap.size)
    (h : ∀ w' a' c', OK enc k E B w' a' (n + n2) c' (l ++ m) → Below B w w' → (∀ q, q < w.heap.size → NB a q → w'.heap[q]? = w.heap[q]? ∧ NB a' q) → w.heap.size ≤ w'.heap.size → K (ac.put o.dst (.slice a' (n + n2) c')) w') :
    if Region.wanted o (yielded ops ac.tmps) = true then Oper.wp P o ac w K Q else R := by
  rw [if_pos (by simp [Region.wanted, hgd])]
  exact wp_appgK hT hk s x ho hs hown hx hr h0 h63 hby hbase h

section
variable {B : Nat} {w w1 w2 w3 : World} {g : Nat} {m m1 m2 : Ml} {a : Option Addr} {c : Nat} {S : Nat → Prop}

/-- The mail behind Put. -/
def puM (F : Fr) (da : Option Addr) (dc : Nat) (m : Ml) : Ml := { m with puts := m.puts + 1, ws := m.ws ++ [((F, (da, dc)), m.puts + 1)] }

/-- What Put leaves, put together. -/
theorem put_fin {F : Fr} {da a' : Option Addr} {dc c' : Nat} {w5 w7 : World} {o : Obj} (h3 : MlO B w3 g { m with puts := m.puts + 1 } a c S) (hw : w.heap.size ≤ w3.heap.size) (hgw : g < w.heap.size) (hS : ∀ b, S b → b < w.heap.size) (hk3 : Ch S w w3)
    (hi : F.id < 4294967296) (hd : F.dlc < 256) (hlen : F.data.length ≤ 1000000) (hl : m.ws.length < m.room) (hpu : m.puts + 1 < 4611686018427387904)
    (g5 : Below w3.heap.size w3 w5) (o5 : OL bv 5 w3.heap.size w5 da F.data.length dc F.data)
    (o7 : OK enW 6 164 B w7 a' (m.ws.length + 1) c' (m.ws ++ [((F, (da, dc)), m.puts + 1)])) (g7 : Below B (w5.alloc o) w7) (hkeep : ∀ q, q < (w5.alloc o).heap.size → NB a q → w7.heap[q]? = (w5.alloc o).heap[q]? ∧ NB a' q) (hsz : (w5.alloc o).heap.size ≤ w7.heap.size) :
    MlO B (w7.setCell ⟨g, 3, none⟩ (.slice a' (m.ws.length + 1) c')) g (puM F da dc m) a' c' (fun b => S b ∨ (w.heap.size ≤ b ∧ b < w7.heap.size)) ∧ Ch S w (w7.setCell ⟨g, 3, none⟩ (.slice a' (m.ws.length + 1) c')) := by
  have z5 := g5.size
  have za : (w5.alloc o).heap.size = w5.heap.size + 1 := by simp
  have h5 := (h3.below g5).alloc o
  have hg5 := h3.lt
  have kA : Ch (fun b => ∃ q, a = some q ∧ q.block = b) (w5.alloc o) w7 := ⟨g7.os, g7.tape, g7.output, hsz, fun b hb hn => (hkeep b hb (fun q hq e => hn ⟨q, hq, e⟩)).1⟩
  have hbx : w7.heap[g]? = some (.cells (mlV g { m with puts := m.puts + 1 } a c) 138 (0, 0)) := (hkeep g (by omega) h3.ng).1.trans h5.box
  have hng' : NB a' g := (hkeep g (by omega) h3.ng).2
  have haS : ∀ q, a' = some q → S q.block ∨ (w.heap.size ≤ q.block ∧ q.block < w7.heap.size) := fun q hq => by
    have hlt := (o7.ltB hq).1
    by_cases hb : q.block < (w5.alloc o).heap.size
    · by_cases hn : NB a q.block
      · exact absurd rfl ((hkeep _ hb hn).2 q hq)
      · left
        have : ∃ q0, a = some q0 ∧ q0.block = q.block := by
          cases a with
          | none => exact absurd (NB.nil _) hn
          | some q0 => by_cases e : q0.block = q.block; exact ⟨q0, rfl, e⟩; exact absurd (fun p hp => by cases hp; exact e) hn
        obtain ⟨q0, h1, h2⟩ := this
        rw [← h2]; exact h3.sr q0 h1
    · right; omega
  have hsw : (w7.setCell ⟨g, 3, none⟩ (.slice a' (m.ws.length + 1) c')).heap.size = w7.heap.size := by simp [World.setCell]
  have hoth : ∀ b, b ≠ g → (w7.setCell ⟨g, 3, none⟩ (.slice a' (m.ws.length + 1) c')).heap[b]? = w7.heap[b]? := fun b hb => Below.heap_setCell _ _ _ _ hb
  have kG : Ch (fun b => b = g) w7 (w7.setCell ⟨g, 3, none⟩ (.slice a' (m.ws.length + 1) c')) := Ch.setCell (S := fun b => b = g) (Ch.refl _ w7) (p := ⟨g, 3, none⟩) (.inl rfl) _
  have hdl : ∀ q, da = some q → q.block < w5.heap.size ∧ w3.heap.size ≤ q.block := fun q hq => o5.ltB hq
  have hbB := h3.hB
  have naA : ∀ q, a = some q → q.block < w.heap.size := fun q hq => hS _ (h3.sr q hq)
  have hch : Ch S w (w7.setCell ⟨g, 3, none⟩ (.slice a' (m.ws.length + 1) c')) := by
    have k1 := (hk3.call g5).alloc o
    have k2 := k1.trans kA (fun b hb => by obtain ⟨q, h1, h2⟩ := hb; left; rw [← h2]; exact h3.sr q h1)
    exact k2.setCell (p := ⟨g, 3, none⟩) (.inl h3.sg) _
  refine ⟨⟨?_, ?_, ?_, h3.hB, .inl h3.sg, haS, ?_, ?_, hng', ?_, h3.rm, ?_, hpu, h3.wi, ?_⟩, hch⟩
  · rw [heap_setCell_same w7 g 3 _ _ _ hbx]
    show some (Obj.cells #[_, _, _, Value.slice a' (m.ws.length + 1) c', _, _] _ _) = some (Obj.cells #[_, _, _, Value.slice a' (puM F da dc m).ws.length c', _, _] _ _)
    rw [show (puM F da dc m).ws.length = m.ws.length + 1 by simp [puM]]
    rfl
  · rw [show (puM F da dc m).ws.length = m.ws.length + 1 by simp [puM]]
    exact o7.kept fun b hb => hoth b (by have := hng'; subst hb; exact this.block)
  · intro p hp
    rcases List.mem_append.1 hp with hp | hp
    · exact ((h5.wt p hp).ch kA (fun q hq ⟨q0, e1, e2⟩ => (h3.nd p hp).2 q0 e1 q hq e2.symm)).ch kG (fun q hq e => (h3.nd p hp).1 q hq e)
    · simp at hp
      subst hp
      have hr := ((o5.alloc o).rl.ch kA (fun q hq ⟨q0, e1, e2⟩ => by have := (hdl q hq).2; have := naA q0 e1; omega)).ch kG (fun q hq e => by have := (hdl q hq).2; omega)
      exact ⟨hr, hi, hd, hlen, hpu⟩
  · intro p hp q hq
    rcases List.mem_append.1 hp with hp | hp
    · exact .inl (h3.sd p hp q hq)
    · simp at hp
      subst hp
      have := hdl q hq
      right; omega
  · intro b hb
    rcases hb with hb | hb
    · exact h3.sB b hb
    · omega
  · intro p hp
    rcases List.mem_append.1 hp with hp | hp
    · refine ⟨(h3.nd p hp).1, fun q hq => ?_⟩
      intro q1 hq1 e
      have h1 := hS _ (h3.sd p hp q1 hq1)
      have hb : q.block < (w5.alloc o).heap.size := by omega
      by_cases hn : NB a q.block
      · exact (hkeep _ hb hn).2 q hq rfl
      · cases a with
        | none => exact hn (NB.nil _)
        | some q0 =>
          refine hn fun p2 hp2 => ?_
          cases hp2
          intro e2
          exact (h3.nd p hp).2 q0 rfl q1 hq1 (by omega)
    · simp at hp
      subst hp
      refine ⟨fun q hq e => by have := (hdl q hq).2; omega, fun q hq q1 hq1 e => ?_⟩
      have h1 := hdl q1 hq1
      have hn : NB a q1.block := fun p2 hp2 e2 => by have := naA p2 hp2; omega
      exact (hkeep _ (by omega) hn).2 q hq e.symm
  · show (puM F da dc m).ws.length ≤ m.room
    rw [show (puM F da dc m).ws.length = m.ws.length + 1 by simp [puM]]; omega
  · intro b hb
    rw [hsw]
    rcases hb with hb | hb
    · have := hS b hb; omega
    · omega

/-- What Put answers, and leaves. -/
def PutR (B : Nat) (w : World) (g : Nat) (m : Ml) (F : Fr) (S : Nat → Prop) (e : Ending) (w' : World) : Prop :=
  ∃ a' c' S' da dc, e = .returned (.tuple #[.int .i64 ((m.puts : Int) + 1), .int .i64 0]) ∧ MlO B w' g (puM F da dc m) a' c' S' ∧ Ch S w w' ∧ (∀ b, S' b → S b ∨ w.heap.size ≤ b)

set_option maxRecDepth 100000 in
set_option maxHeartbeats 8000000 in
theorem mlPut_any (h : MlO B w g m a c S) (F : Fr) (fa : Option Addr) (fc : Nat) (hi : F.id < 4294967296) (hd : F.dlc < 256) (hr : riF F.id F.ext F.rem F.dlc F.data.length = true) (hl : m.ws.length < m.room) (hpu : m.puts + 1 < 4611686018427387904) (hR : ∀ w', Ch S w w' → RL bv w' fa F.data.length fc F.data) (hlen : F.data.length ≤ 1000000) :
    Calls Tryz.prog 56 #[.pointer (some ⟨g, 0, none⟩), .agg (frV F fa fc)] w (PutR B w g m F S) := by
  obtain ⟨w0, hw0, h0, hb, gg⟩ : ∃ w0, Hid (w.alloc (.cells (frV F fa fc) 35) = w0) ∧ MlO B w0 g m a c S ∧ w0.heap[w.heap.size]? = some (.cells (frV F fa fc) 35 (0, 0)) ∧ Below w.heap.size w w0 := ⟨_, rfl, h.alloc _, heap_alloc_new w _, bnew0 w _⟩
  obtain ⟨x0, x1, x2, x3, x4⟩ := bx5 hb
  have hm := mlMade_any h0
  have hRi := frRight_any w0 F.id F.ext F.rem F.dlc fa F.data.length fc hi hd
  rw [hr] at hRi
  clear hr
  have he : ((m.ws.length : Int) == (m.room : Int)) = false := by rw [beq_eq_false_iff_ne]; omega
  have hgB : g < w.heap.size := h.lt
  have hpu' : (m.puts : Int) + 1 < 4611686018427387904 := by omega
  have HL := hid hl; clear hl
  go_enter Tryz.func56, Tryz.ntmps56
  go_wp2_with (first
    | (go_at_call 76; rw [hw0.out]; (refine hm.mono ?_); rintro e w1 ⟨rfl, rfl⟩)
    | (go_at_call 53; (refine hRi.mono ?_); rintro e w1 ⟨rfl, g1⟩
       have h1 := h0.below g1
       have q1 := (bx6 h1.box).2.1
       have q3 := (bx6 h1.box).2.2.2.1))
  go_quiet (fail)
  rename_i nq
  have h2 := h1.below (below_drewN (Below.refl w1.heap.size w1) nq)
  have g2 := below_drewN (bstep gg g1) nq
  have b2 := bx_below hb (g1.trans (below_drewN (Below.refl w0.heap.size w1) nq))
  generalize w1.drewN nq = w2 at *
  have q2 := (bx6 h2.box).2.2.1
  have hz := h2.thaw
  have h3 : MlO B (w2.setCell ⟨g, 2, none⟩ (.int .i64 ((m.puts : Int) + 1))) g { m with puts := m.puts + 1 } a c S := by
    rw [show (m.puts : Int) + 1 = ((m.puts + 1 : Nat) : Int) by omega]
    exact h2.cell 2 _ { m with puts := m.puts + 1 } rfl rfl rfl hpu h.wi
  have k3 : Ch S w (w2.setCell ⟨g, 2, none⟩ (.int .i64 ((m.puts : Int) + 1))) := (Ch.of_below g2).setCell (p := ⟨g, 2, none⟩) (.inl h.sg) _
  have b3 : (w2.setCell ⟨g, 2, none⟩ (.int .i64 ((m.puts : Int) + 1))).heap[w.heap.size]? = some (.cells (frV F fa fc) 35 (0, 0)) := (Below.heap_setCell _ _ _ _ (by show w.heap.size ≠ g; omega)).trans b2
  clear q1 q3 h1 g1 x0 x1 x2 x3 x4 hm hRi
  go_wp2
  clear q2 hz h2 g2 b2
  generalize w2.setCell ⟨g, 2, none⟩ (.int .i64 ((m.puts : Int) + 1)) = w3 at *
  have hR3 := (hR _ k3).drew
  obtain ⟨x0, x1, x2, x3, x4⟩ := bx5 b3
  have q2 : w3.cell? ⟨g, 2, none⟩ = some (.int .i64 ((m.puts : Int) + 1)) := by rw [(bx6 h3.box).2.2.1, show (m.puts : Int) + 1 = ((m.puts + 1 : Nat) : Int) by omega]
  have q3 := (bx6 h3.box).2.2.2.1
  have hd3 : Below w3.heap.size w3 w3.drew := (Below.refl _ _).drew
  have hn9 : m.ws.length + 1 ≤ 1000000000 := by have := h.rm; have := HL.out; omega
  have hBw : B ≤ w3.heap.size := by have := h.hB; have := k3.size; omega
  clear he hw0 h0 hb gg
  have HS : Below w3.heap.size w3 w3.drew := hd3
  have hq2 : ∀ w', Below w3.heap.size w3 w' → w'.cell? ⟨g, 2, none⟩ = some (.int .i64 ((m.puts : Int) + 1)) := fun w' hw => (hw.cell (p := ⟨g, 2, none⟩) h3.lt).trans q2
  have hq3 : ∀ w', Below w3.heap.size w3 w' → w'.cell? ⟨g, 3, none⟩ = some (.slice a m.ws.length c) := fun w' hw => (hw.cell (p := ⟨g, 3, none⟩) h3.lt).trans q3
  clear q2 q3 x0 x1 x2 x3 x4
  refine Rest.begin (S := fun w' => Below w3.heap.size w3 w') (X := [6, 11, 13]) (by kernel_rfl) ?_
  change Rest _ _ _ _ _ _ _ _ _ w3.drew
  refine Rest.take (i := 0) (v := .pointer (some ⟨g, 0, none⟩)) rfl (by kernel_rfl) (by kernel_rfl) (by kernel_rfl) (by kernel_rfl) (fun _ _ _ h => h) (.inl HS) (Or.inl ⟨by simp [Region.wanted], ?_⟩) ?_
  · intro w; go_simp
  refine Rest.take (i := 1) (v := .pointer (some ⟨g, 0, none⟩)) rfl (by kernel_rfl) (by kernel_rfl) (by kernel_rfl) (by kernel_rfl) (fun _ _ _ h => h) (.inl HS) (Or.inl ⟨by simp [Region.wanted], ?_⟩) ?_
  · intro w; go_simp
  refine Rest.take (i := 2) (v := .pointer (some ⟨g, 0, none⟩)) rfl (by kernel_rfl) (by kernel_rfl) (by kernel_rfl) (by kernel_rfl) (fun _ _ _ h => h) (.inl HS) (Or.inl ⟨by simp [Region.wanted], ?_⟩) ?_
  · intro w; go_simp
  refine Rest.take (i := 3) (v := .pointer (some ⟨g, 3, none⟩)) rfl (by kernel_rfl) (by kernel_rfl) (by kernel_rfl) (by kernel_rfl) (fun _ _ _ h => h) (.inl HS) (Or.inl ⟨by simp [Region.wanted], ?_⟩) ?_
  · intro w; go_simp
  refine Rest.takeS (i := 4) (v := .slice a m.ws.length c) rfl (by kernel_rfl) (by kernel_rfl) (by kernel_rfl) (by kernel_rfl) (fun _ _ _ h => h) HS (.inl ⟨by simp [Region.wanted], ?_⟩) ?_
  · intro w hw; have q3 := hq3 w hw; go_simp
  refine Rest.takeS (i := 5) (v := .agg (frV F fa fc)) rfl (by kernel_rfl) (by kernel_rfl) (by kernel_rfl) (by kernel_rfl) (fun _ _ _ h => h) HS (yields_loadR rowF (by simp [Region.wanted]) _ rfl w.heap.size (by simp [Act.eval, Act.put]) _ rfl (fun w' hw => ⟨_, _, bx_below b3 hw⟩)) ?_
  refine Rest.take (i := 7) (v := .pointer (some ⟨g, 0, none⟩)) rfl (by kernel_rfl) (by kernel_rfl) (by kernel_rfl) (by kernel_rfl) (fun _ _ _ h => h) (.inl HS) (Or.inl ⟨by simp [Region.wanted], ?_⟩) ?_
  · intro w; go_simp
  refine Rest.take (i := 8) (v := .pointer (some ⟨g, 0, none⟩)) rfl (by kernel_rfl) (by kernel_rfl) (by kernel_rfl) (by kernel_rfl) (fun _ _ _ h => h) (.inl HS) (Or.inl ⟨by simp [Region.wanted], ?_⟩) ?_
  · intro w; go_simp
  refine Rest.take (i := 9) (v := .pointer (some ⟨g, 2, none⟩)) rfl (by kernel_rfl) (by kernel_rfl) (by kernel_rfl) (by kernel_rfl) (fun _ _ _ h => h) (.inl HS) (Or.inl ⟨by simp [Region.wanted], ?_⟩) ?_
  · intro w; go_simp
  refine Rest.takeS (i := 10) (v := .int .i64 ((m.puts : Int) + 1)) rfl (by kernel_rfl) (by kernel_rfl) (by kernel_rfl) (by kernel_rfl) (fun _ _ _ h => h) HS (.inl ⟨by simp [Region.wanted], ?_⟩) ?_
  · intro w hw; have q2 := hq2 w hw; go_simp
  refine Rest.one (i := 6) (by kernel_rfl) rfl (fun K hK => ?_)
  refine draw_callF 79 (by kernel_rfl) (by simp [Region.wanted]) _ _ _ rfl (by simp [Act.eval]) #[.agg (frV F fa fc)] (by simp [Act.eval, Act.put]) _ (cloneFr_any _ _ _ _ _ _ _ _ _ hR3 hlen) ?_
  rintro e w5 ⟨da, dc, rfl, o5, g5⟩
  refine ⟨_, rfl, ?_⟩
  have g35 : Below w3.heap.size w3 w5 := hd3.trans g5
  have h5 := h3.below g35
  have z5 := g35.size
  refine hK _ _ ⟨.inl g35, ?_⟩; clear hK K
  refine Rest.one (i := 11) (by kernel_rfl) rfl (fun K hK => ?_)
  rw [if_pos (by simp [Region.wanted])]
  go_simp
  refine hK _ _ ⟨.inl g35, ?_⟩; clear hK K
  refine Rest.one (i := 12) (by kernel_rfl) rfl (fun K hK => ?_)
  rw [if_pos (by simp [Region.wanted])]
  go_simp
  refine hK _ _ ⟨.inl (g35.alloc z5 _), ?_⟩; clear hK K
  have hB5 : B ≤ (w5.alloc (.cells #[.int .u32 (F.id : Int), .bool F.ext, .bool F.rem, .int .u8 (F.dlc : Int), .slice da F.data.length dc, .int .i64 ((m.puts : Int) + 1)] 164)).heap.size := by rw [heap_size_alloc]; omega
  have hown5 := h5.row.alloc (.cells #[.int .u32 (F.id : Int), .bool F.ext, .bool F.rem, .int .u8 (F.dlc : Int), .slice da F.data.length dc, .int .i64 ((m.puts : Int) + 1)] 164)
  have hsrc : RK enW 6 (w5.alloc (.cells #[.int .u32 (F.id : Int), .bool F.ext, .bool F.rem, .int .u8 (F.dlc : Int), .slice da F.data.length dc, .int .i64 ((m.puts : Int) + 1)] 164)) (some ⟨w5.heap.size, 0, none⟩) 1 1 [((F, (da, dc)), m.puts + 1)] := (ok_lit enW_k 164 0 w5 [((F, (da, dc)), m.puts + 1)] _ 1 (by simp [enW]) rfl (by omega) (Nat.zero_le _)).rk enW_k
  refine Rest.one (i := 13) (by kernel_rfl) rfl (fun K hK => ?_)
  refine step_appgK elW enW_k rfl (.tmp 36) (.tmp 44) rfl rfl hown5 rfl hsrc (by omega) hn9 (by omega) hB5 ?_
  rintro w7 a7 c7 o7 g7 k7 s7
  refine hK _ _ ⟨.inr (thru_of (by kernel_rfl)), Rest.of_any _ _ _ _ (thru_of (by kernel_rfl)) ?_⟩; clear hK K
  have hfin := put_fin h3 k3.size hgB h.sL k3 hi hd hlen HL.out hpu g35 (o5.mono (by simp)) o7 g7 k7 s7
  have hng7 := (k7 g (by have := h5.lt; rw [heap_size_alloc]; omega) h3.ng)
  have hb7 : w7.heap[g]? = some (.cells (mlV g { m with puts := m.puts + 1 } a c) 138 (0, 0)) := hng7.1.trans (h5.alloc _).box
  have hz7 := bx_thaw hb7
  have q37 := (bx6 hb7).2.2.2.1
  have q27 : w7.cell? ⟨g, 2, none⟩ = some (.int .i64 ((m.puts : Int) + 1)) := by rw [(bx6 hb7).2.2.1, show (m.puts : Int) + 1 = ((m.puts + 1 : Nat) : Int) by omega]
  refine wpAny_take (i := 14) (v := .pointer (some ⟨g, 0, none⟩)) rfl (by kernel_rfl) (by kernel_rfl) (by kernel_rfl) (fun _ _ _ h => h) (Or.inl ⟨by simp [Region.wanted], ?_⟩) ?_
  · intro w; go_simp
  refine wpAny_take (i := 15) (v := .pointer (some ⟨g, 3, none⟩)) rfl (by kernel_rfl) (by kernel_rfl) (by kernel_rfl) (fun _ _ _ h => h) (Or.inl ⟨by simp [Region.wanted], ?_⟩) ?_
  · intro w; go_simp
  refine wpAny_ready (rs := [16]) (by kernel_rfl) (by simp) ?_
  refine AllReady.cons rfl (fun K hK => ?_) AllReady.nil
  rw [if_pos (by simp [Region.wanted])]
  go_simp
  refine hK _ _ ?_; clear hK K
  refine wpAny_done (by kernel_rfl) ?_ _
  clear HS hq2 hq3 h3 h5 g35 o5 o7 g7 k7 s7 hown5 hsrc
  go_wp2
  go_ret2
  exact ⟨_, _, _, _, _, rfl, hfin.1, hfin.2, fun b hb => hb.imp id fun x => x.1⟩
end
end Go.Proofs.YtajdbimdiodalaaGreat

namespace Go.Proofs.YtajdbimdiodalaaGreat
open Go.RowKit Go.Sort
set_option linter.unusedVariables false

section
variable {B : Nat} {w w1 w2 w3 : World} {g : Nat} {m m1 m2 : Ml} {a : Option Addr} {c : Nat} {S : Nat → Prop}

/-- A new mail. -/
def neM (room : Nat) : Ml := ⟨room, 0, [], 0, false⟩
set_option maxRecDepth 100000 in
set_option maxHeartbeats 1000000 in
theorem mlNew_any (w : World) (room : Nat) (h1 : 1 ≤ room) (h2 : room ≤ 256) :
    Calls Tryz.prog 35 #[.int .i64 (room : Int)] w fun e w' => ∃ g, e = .returned (.tuple #[.pointer (some ⟨g, 0, none⟩), .int .i64 0]) ∧ MlO w.heap.size w' g (neM room) none 0 (fun b => b = g) ∧ w.heap.size ≤ g ∧ Below w.heap.size w w' := by
  have i1 : ¬ (room : Int) < 1 := by omega
  have i2 : ¬ (256 : Int) < (room : Int) := by omega
  go_enter Tryz.func35, Tryz.ntmps35
  go_wp2
  go_ret2
  exact ⟨w.heap.size, rfl, ⟨heap_alloc_new w _, OK.nil _ _ _ _ _, fun p hp => (by cases hp), Nat.le_refl _, rfl, fun q hq => (by cases hq), fun p hp => (by cases hp), fun b hb => (by subst hb; exact Nat.le_refl _), NB.nil _, fun p hp => (by cases hp), by show room ≤ 1000; omega, Nat.zero_le _, by show 0 < _; omega, by show 0 < _; omega, fun b hb => (by subst hb; simp)⟩, Nat.le_refl _, bnew0 w _⟩

set_option maxRecDepth 100000 in
set_option maxHeartbeats 1000000 in
theorem abort_wire (h : MlO B w g m a c S) (hN : hasW (m.wire : Int) m.ws = true) :
    Calls Tryz.prog 94 #[.pointer (some ⟨g, 0, none⟩), .int .i64 (m.wire : Int)] w fun e w' => e = .returned (.tuple #[.bool false, .int .i64 0]) ∧ Mle B w g { m with ab := true } a c S w' := by
  have hm := mlMade_any h
  have hw := waits_any h (m.wire : Int)
  rw [hN] at hw
  clear hN
  go_enter Tryz.func94, Tryz.ntmps94
  go_wp2_with (first
    | (go_at_call 76; (refine hm.mono ?_); rintro e w1 ⟨rfl, rfl⟩)
    | (go_at_call 50; (refine hw.mono ?_); rintro e w1 ⟨rfl, g1⟩
       have h1 := h.below g1
       have q4 := (bx6 h1.box).2.2.2.2.1
       have q5 := (bx6 h1.box).2.2.2.2.2
       have hz := h1.thaw
       have he : ((m.wire : Int) == (m.wire : Int)) = true := by simp))
  go_ret2
  exact ⟨rfl, h1.cell 5 (.bool true) { m with ab := true } rfl rfl rfl h.pu h.wi, ((Ch.refl S w).call g1).setCell (p := ⟨g, 5, none⟩) (.inl h.sg) _⟩

set_option maxRecDepth 100000 in
set_option maxHeartbeats 1000000 in
theorem abort_yes (h : MlO B w g m a c S) (N : Nat) (hN : hasW (N : Int) m.ws = true) (hne : N ≠ m.wire) :
    Calls Tryz.prog 94 #[.pointer (some ⟨g, 0, none⟩), .int .i64 (N : Int)] w fun e w' => e = .returned (.tuple #[.bool true, .int .i64 0]) ∧ Mle B w g (rmM N m) a c S w' := by
  have hm := mlMade_any h
  have hw := waits_any h (N : Int)
  rw [hN] at hw
  have hx : ∃ p ∈ m.ws, p.2 = N := by obtain ⟨p, h1, h2⟩ := hasW_yes hN; exact ⟨p, h1, by omega⟩
  have he : ((N : Int) == (m.wire : Int)) = false := by rw [beq_eq_false_iff_ne]; omega
  clear hN hne
  go_enter Tryz.func94, Tryz.ntmps94
  go_wp2_with (first
    | (go_at_call 76; (refine hm.mono ?_); rintro e w1 ⟨rfl, rfl⟩)
    | (go_at_call 50; (refine hw.mono ?_); rintro e w1 ⟨rfl, g1⟩
       have h1 := h.below g1
       have q4 := (bx6 h1.box).2.2.2.2.1)
    | (go_at_call 89; (refine (remove_any h1 N hx).mono ?_); rintro e w2 ⟨rfl, o2, k2⟩))
  go_ret2
  exact ⟨rfl, o2, ((Ch.refl S w).call g1).trans k2 fun b hb => .inl hb⟩
end
end Go.Proofs.YtajdbimdiodalaaGreat

namespace Go.Proofs.YtajdbimdiodalaaGreat
open Go.RowKit Go.Sort
set_option linter.unusedVariables false

theorem results_row_mid {P : Program} {T : TypeId} {n : Nat} (hT : RowT P T n) {fn : Func} {p q r : Tmp} (h : fn.results = #[.tmp p, .cell q T, .tmp r]) (tmps : Array Value) (w : World) (g : Nat) {t : TypeId} {cs : Array Value} {fr : Nat × Nat} {u v : Value}
    (hp : tmps.getD p undef = u) (hq : tmps.getD q undef = .pointer (some ⟨g, 0, none⟩)) (hr : tmps.getD r undef = v) (hg : w.heap[g]? = some (.cells cs t fr)) (hn : cs.size = n) :
    (results fn tmps).run P w = .ok (.tuple #[u, .agg cs, v]) w := by
  obtain ⟨d, hu, hd⟩ := hT.und
  have hp' : tmps[p]?.getD undef = u := by simpa using hp
  have hq' : tmps[q]?.getD undef = .pointer (some ⟨g, 0, none⟩) := by simpa using hq
  have hr' : tmps[r]?.getD undef = v := by simpa using hr
  have e1 := run_loadVar_row (P := P) w g t T cs fr d hg hu (by cases d <;> simp_all) (by rw [hT.size, hn])
  simp [results, h, hp', hq', hr', asAddr, e1]

abbrev frZr : Array Value := #[.int .u32 0, .bool false, .bool false, .int .u8 0, .slice none 0 0]
theorem set5b_same {w1 : World} {g : Nat} {T : TypeId} {u0 u1 u2 u3 u4 : Value} (h : w1.heap[g]? = some (.cells #[u0, u1, u2, u3, u4] T (0, 0))) (v0 v1 v2 v3 v4 : Value) :
    (((((w1.setCell ⟨g, 0, none⟩ v0).setCell ⟨g, 1, none⟩ v1).setCell ⟨g, 2, none⟩ v2).setCell ⟨g, 3, none⟩ v3).setCell ⟨g, 4, none⟩ v4).heap[g]? = some (.cells #[v0, v1, v2, v3, v4] T (0, 0)) :=
  heap_setCell_same _ g 4 _ _ _ (heap_setCell_same _ g 3 _ _ _ (heap_setCell_same _ g 2 _ _ _ (heap_setCell_same _ g 1 _ _ _ (heap_setCell_same _ g 0 _ _ _ h))))
theorem set5b_other {w1 : World} {g k : Nat} (h : k ≠ g) (v0 v1 v2 v3 v4 : Value) :
    (((((w1.setCell ⟨g, 0, none⟩ v0).setCell ⟨g, 1, none⟩ v1).setCell ⟨g, 2, none⟩ v2).setCell ⟨g, 3, none⟩ v3).setCell ⟨g, 4, none⟩ v4).heap[k]? = w1.heap[k]? := by
  rw [Below.heap_setCell _ _ _ _ h, Below.heap_setCell _ _ _ _ h, Below.heap_setCell _ _ _ _ h, Below.heap_setCell _ _ _ _ h, Below.heap_setCell _ _ _ _ h]
theorem set5b_below {B : Nat} {w w1 : World} {g : Nat} (h : Below B w w1) (hg : B ≤ g) (v0 v1 v2 v3 v4 : Value) :
    Below B w (((((w1.setCell ⟨g, 0, none⟩ v0).setCell ⟨g, 1, none⟩ v1).setCell ⟨g, 2, none⟩ v2).setCell ⟨g, 3, none⟩ v3).setCell ⟨g, 4, none⟩ v4) :=
  ((((h.setCell hg _).setCell hg _).setCell hg _).setCell hg _).setCell hg _

section
variable {B : Nat} {w w1 w2 w3 : World} {g : Nat} {m m1 m2 : Ml} {a : Option Addr} {c : Nat} {S : Nat → Prop}

set_option maxRecDepth 100000 in
set_option maxHeartbeats 4000000 in
theorem best_any (h : MlO B w g m a c S) (p : Wt) (hp : beM m = some p) :
    Calls Tryz.prog 85 #[.pointer (some ⟨g, 0, none⟩)] w fun e w' => ∃ da dc, e = .returned (.tuple #[.int .i64 (p.2 : Int), .agg (frV p.1.1 da dc), .bool true]) ∧ OL bv 5 w.heap.size w' da p.1.1.data.length dc p.1.1.data ∧ Below w.heap.size w w' := by
  obtain ⟨w0, hw0, h0, hb, gg⟩ : ∃ w0, Hid (w.alloc (.cells frZr 35) = w0) ∧ MlO B w0 g m a c S ∧ w0.heap[w.heap.size]? = some (.cells frZr 35 (0, 0)) ∧ Below w.heap.size w w0 := ⟨_, rfl, h.alloc _, heap_alloc_new w _, bnew0 w _⟩
  have q3 := (bx6 h0.box).2.2.2.1
  have hm := mlMade_any h0
  have hf := first_any h0 p hp
  have hmem := beM_num hp
  have hl := List.length_pos_of_mem hmem
  have hne : ((m.ws.length : Int) == 0) = false := by rw [beq_eq_false_iff_ne]; omega
  have hwt := h.wt p hmem
  have hdl := hwt.len
  have z0 : w.heap.size + 1 ≤ w0.heap.size := by have := bx_lt hb; omega
  clear hp hmem hl
  go_enter Tryz.func85, Tryz.ntmps85
  go_wp2_with (first
    | (go_at_call 76; rw [hw0.out]; (refine hm.mono ?_); rintro e w1 ⟨rfl, rfl⟩)
    | (go_at_call 116; (refine hf.mono ?_); rintro e w1 ⟨rfl, g1⟩
       have b1 := bx_alloc (.cells wtZ 164) (bx_below hb g1)
       have c1 := heap_alloc_new w1 (.cells wtZ 164)
       have z1 := g1.size)
    | (with_reducible refine wpList_storeR rowW rfl _ _ rfl _ _ rfl rfl c1 rfl rfl (wt_ones _) ?_))
  have c2 : ((w1.alloc (.cells wtZ 164)).setRow w1.heap.size (wtV p)).heap[w1.heap.size]? = some (.cells (wtV p) 164 (0, 0)) := setRow_heap _ _ _ _ _ _ c1
  have b2 : ((w1.alloc (.cells wtZ 164)).setRow w1.heap.size (wtV p)).heap[w.heap.size]? = some (.cells frZr 35 (0, 0)) := (setRow_other _ _ _ _ (by omega)).trans b1
  have g2 : Below w.heap.size w ((w1.alloc (.cells wtZ 164)).setRow w1.heap.size (wtV p)) := below_setRow (bnew (bstep gg g1) _) (by omega) _
  have z2 : w.heap.size + 1 ≤ ((w1.alloc (.cells wtZ 164)).setRow w1.heap.size (wtV p)).heap.size := by simp; omega
  have hK : w.heap.size < w1.heap.size := by omega
  clear b1 c1 q3 hm hf hw0 h0 hb gg g1 z0 z1
  generalize (w1.alloc (.cells wtZ 164)).setRow w1.heap.size (wtV p) = w2 at *
  obtain ⟨x0, x1, x2, x3, x4, x5⟩ := bx6 c2
  have hrd := (hwt.dat.below g2).drew
  have hd2 : Below w2.heap.size w2 w2.drew := (Below.refl _ _).drew
  go_region_law (first
    | (go_simp; go_at_call 79; refine (cloneFr_any _ _ _ _ _ _ _ _ _ hrd hdl).mono ?_; rintro e w5 ⟨da, dc, rfl, o5, g5⟩
       have g25 : Below w2.heap.size w2 w5 := hd2.trans g5
       have c5 := bx_below c2 g25
       have b5 := bx_below b2 g25
       obtain ⟨y0, y1, y2, y3, y4, y5⟩ := bx6 c5
       obtain ⟨u0, u1, u2, u3, u4⟩ := bx5 b5
       have hf5 := bx_thaw b5
       have gg5 := bstep g2 g25
       have hne5 : w1.heap.size ≠ w.heap.size := by omega
       have o6 := (o5.mono (show w.heap.size + 1 ≤ _ from z2)).kept (w' := (((((w5.setCell ⟨w.heap.size, 0, none⟩ (.int .u32 (p.1.1.id : Int))).setCell ⟨w.heap.size, 1, none⟩ (.bool p.1.1.ext)).setCell ⟨w.heap.size, 2, none⟩ (.bool p.1.1.rem)).setCell ⟨w.heap.size, 3, none⟩ (.int .u8 (p.1.1.dlc : Int))).setCell ⟨w.heap.size, 4, none⟩ (.slice da p.1.1.data.length dc))) (fun k hk => set5b_other (by have := (o5.ltB hk).2; dsimp only at this; have := z2; have : w2.drew.heap.size = w2.heap.size := rfl; omega) _ _ _ _ _)))
  all_goals
    go_wp2
    exact bodyPost_ret (v := .tuple #[.int .i64 (p.2 : Int), .agg (frV p.1.1 da dc), .bool true]) (results_row_mid rowF rfl _ _ _ rfl rfl rfl (set5b_same b5 _ _ _ _ _) rfl) rfl ⟨da, dc, rfl, o6.mono (by omega), set5b_below gg5 (Nat.le_refl _) _ _ _ _ _⟩
end
end Go.Proofs.YtajdbimdiodalaaGreat

namespace Go.Proofs.YtajdbimdiodalaaGreat
open Go.RowKit Go.Sort
set_option linter.unusedVariables false

end Go.Proofs.YtajdbimdiodalaaGreat

namespace Go.Proofs.YtajdbimdiodalaaGreat
set_option linter.unusedVariables false

/-- A filter. -/
structure Fi where
  ext : Bool
  mask : Nat
  mat : Nat
  deriving DecidableEq

def topF (e : Bool) : Nat := if e = true then 536870911 else 2047
/-- Its numbers are numbers of 32 bits. -/
def Fi.Ok (x : Fi) : Prop := x.mask < 4294967296 ∧ x.mat < 4294967296
instance (x : Fi) : Decidable x.Ok := inferInstanceAs (Decidable (_ ∧ _))
def rightF (x : Fi) : Bool := decide (x.mask ≤ topF x.ext) && decide (x.mat &&& (4294967295 - x.mask) = 0)
def letsF (id : Nat) (e : Bool) (x : Fi) : Bool := rightF x && (x.ext == e) && decide (id &&& x.mask = x.mat)
def anyF (id : Nat) (e : Bool) (l : List Fi) : Bool := l.any (letsF id e)
def passF (id : Nat) (e : Bool) (l : List Fi) : Bool := decide (l.length = 0) || anyF id e l
/-- The first one that lets it in, or -1. -/
def fiF (id : Nat) (e : Bool) (l : List Fi) : Int := if anyF id e l = true then (l.findIdx (letsF id e) : Int) else -1

theorem topF_lt (e : Bool) : topF e < 4294967296 := by cases e <;> decide

theorem anyF_take {id : Nat} {e : Bool} {l : List Fi} {k : Nat} {x : Fi} (hx : l[k]? = some x) : anyF id e (l.take (k + 1)) = (anyF id e (l.take k) || letsF id e x) := by
  rw [List.take_add_one, hx]; simp [anyF]
theorem fiF_at {id : Nat} {e : Bool} {l : List Fi} {k : Nat} {x : Fi} (hx : l[k]? = some x) (h : letsF id e x = true) (h0 : anyF id e (l.take k) = false) : fiF id e l = (k : Int) := by
  have hk : k < l.length := (List.getElem?_eq_some_iff.1 hx).1
  have ha : anyF id e l = true := by
    rw [anyF, List.any_eq_true]
    exact ⟨x, List.mem_of_getElem? hx, h⟩
  rw [fiF, if_pos ha]
  congr 1
  have e1 : l = l.take k ++ x :: l.drop (k + 1) := by
    have := (List.getElem?_eq_some_iff.1 hx).2
    rw [← this, ← List.drop_eq_getElem_cons hk, List.take_append_drop]
  have h0' : ∀ y ∈ l.take k, letsF id e y = false := by
    rw [anyF, List.any_eq_false] at h0
    exact fun y hy => by simpa using h0 y hy
  have hlk : (l.take k).length = k := by rw [List.length_take]; omega
  rw [e1, List.findIdx_append, List.findIdx_eq_length_of_false h0', hlk]
  simp [List.findIdx_cons, h]
theorem fiF_no {id : Nat} {e : Bool} {l : List Fi} (h : anyF id e l = false) : fiF id e l = -1 := by rw [fiF, h]; rfl
theorem fiF_ge (id : Nat) (e : Bool) (l : List Fi) : decide ((0 : Int) ≤ fiF id e l) = anyF id e l := by
  unfold fiF
  cases anyF id e l <;> simp
end Go.Proofs.YtajdbimdiodalaaGreat

namespace Go.Proofs.YtajdbimdiodalaaGreat
open Go.RowKit Go.Sort
set_option linter.unusedVariables false

theorem tFi : ElK Tryz.prog 22 69 3 (.agg #[.bool false, .int .u32 0, .int .u32 0]) 12 := ⟨by kernel_rfl, by kernel_rfl, by kernel_rfl, by kernel_rfl, by kernel_rfl, by decide⟩
theorem rowFi : RowT Tryz.prog 69 3 := rowT_of (by kernel_rfl) (by kernel_rfl)

/-- A filter's cells. -/
abbrev fiV (x : Fi) : Array Value := #[.bool x.ext, .int .u32 (x.mask : Int), .int .u32 (x.mat : Int)]
def fiE (x : Fi) : List Value := [.bool x.ext, .int .u32 (x.mask : Int), .int .u32 (x.mat : Int)]
theorem eFi : EnK fiE 3 := ⟨fun _ => rfl, fun x v hv => by simp [fiE] at hv; rcases hv with rfl | rfl | rfl <;> rfl⟩

theorem bx3F {w : World} {g : Nat} {E : TypeId} {v0 v1 v2 : Value} (h : w.heap[g]? = some (.cells #[v0, v1, v2] E (0, 0))) :
    w.cell? ⟨g, 0, none⟩ = some v0 ∧ w.cell? ⟨g, 1, none⟩ = some v1 ∧ w.cell? ⟨g, 2, none⟩ = some v2 :=
  ⟨by rw [cell_of_row w g 0 _ _ _ h]; rfl, by rw [cell_of_row w g 1 _ _ _ h]; rfl, by rw [cell_of_row w g 2 _ _ _ h]; rfl⟩

theorem greatest_any (e : Bool) (w : World) : Calls Tryz.prog 54 #[.bool e] w fun r w' => r = .returned (.int .u32 (topF e : Int)) ∧ w = w' := by
  cases e
  · go_enter Tryz.func54, Tryz.ntmps54
    go_wp2
    go_ret
    exact ⟨rfl, rfl⟩
  · go_enter Tryz.func54, Tryz.ntmps54
    go_wp2
    go_ret
    exact ⟨rfl, rfl⟩

/-- One box behind a call's begin: the world behind it under a name. -/
theorem boxed11 (w : World) (E : TypeId) (cs : Array Value) : ∃ w0, Hid (w.alloc (.cells cs E) = w0) ∧ w0.heap[w.heap.size]? = some (.cells cs E (0, 0)) ∧ Below w.heap.size w w0 :=
  ⟨_, hid rfl, heap_alloc_new w _, bnew0 w _⟩
theorem bx3r {w : World} {g : Nat} {E : TypeId} {v0 v1 v2 : Value} (h : w.heap[g]? = some (.cells #[v0, v1, v2] E (0, 0))) :
    (∀ d os, (grow (redrawn w d) os).cell? ⟨g, 0, none⟩ = some v0) ∧ (∀ d os, (grow (redrawn w d) os).cell? ⟨g, 1, none⟩ = some v1) ∧ (∀ d os, (grow (redrawn w d) os).cell? ⟨g, 2, none⟩ = some v2) := by
  obtain ⟨k0, k1, k2⟩ := bx3F h
  exact ⟨fun d os => cell_regrown k0 d os, fun d os => cell_regrown k1 d os, fun d os => cell_regrown k2 d os⟩

theorem fiRight_any (x : Fi) (hx : x.Ok) (w : World) : Calls Tryz.prog 21 #[.agg (fiV x)] w fun r w' => r = .returned (.bool (rightF x)) ∧ Below w.heap.size w w' := by
  obtain ⟨e, m, a⟩ := x
  obtain ⟨h1, h2⟩ := hx
  simp only at h1 h2
  have hA := u32_andNot_nat a m h2 h1
  have ht := topF_lt e
  show Calls _ _ #[.agg #[.bool e, .int .u32 (m : Int), .int .u32 (a : Int)]] _ _
  have hr : ∀ u, a &&& (4294967295 - m) = u → rightF ⟨e, m, a⟩ = (decide (m ≤ topF e) && decide (u = 0)) := fun u hu => by rw [rightF, hu]
  generalize hu : a &&& (4294967295 - m) = u at hA
  rw [hr u hu]
  clear hr hu
  obtain ⟨w0, hw0, hbx, gg0⟩ := boxed11 w 69 #[.bool e, .int .u32 (m : Int), .int .u32 (a : Int)]
  obtain ⟨x0, x1, x2⟩ := bx3r hbx
  have kG : ∀ d os, Calls Tryz.prog 54 #[.bool e] (grow (redrawn w0 d) os) fun r w'' => r = .returned (.int .u32 (topF e : Int)) ∧ ∃ r : Regrown, w'' = grow (redrawn w0 r.d) r.os := fun d os =>
    Calls.regrown_of ((greatest_any e _).mono fun e w' he => ⟨he.1, by rw [he.2]; exact Below.refl _ _⟩)
  generalize topF e = t at *
  have d3 : ((u : Int) == 0) = decide (u = 0) := by by_cases h : u = 0 <;> simp [h]
  by_cases hm : m ≤ t
  · have d1 : decide ((m : Int) ≤ (t : Int)) = true := by simp; omega
    have d2 : decide (m ≤ t) = true := by simp; omega
    rw [d2]
    clear hm
    go_enter Tryz.func21, Tryz.ntmps21
    go_wp2
    rw [hw0.out]
    refine wp_region_quiet_below (by kernel_rfl) (by kernel_rfl) ?_
    repeat (go_big_quiet_step (first | (go_at_call 54; with_reducible exact kG _ _)))
    refine wpQuiet_nil ?_
    intro w9 hw9
    have g9 : Below w0.heap.size w0 w9 := by obtain ⟨p9, rfl⟩ := hw9; exact below_regrown _ _ _
    clear hw9 kG x0 x1 x2
    go_wp2
    go_ret
    exact ⟨ret_bool (by rw [← d3]; rfl), bstep gg0 g9⟩
  · have d1 : decide ((m : Int) ≤ (t : Int)) = false := by simp; omega
    have d2 : decide (m ≤ t) = false := by simp; omega
    rw [d2]
    clear hm
    go_enter Tryz.func21, Tryz.ntmps21
    go_wp2
    rw [hw0.out]
    refine wp_region_quiet_below (by kernel_rfl) (by kernel_rfl) ?_
    repeat (go_big_quiet_step (first | (go_at_call 54; with_reducible exact kG _ _)))
    refine wpQuiet_nil ?_
    intro w9 hw9
    have g9 : Below w0.heap.size w0 w9 := by obtain ⟨p9, rfl⟩ := hw9; exact below_regrown _ _ _
    clear hw9 kG x0 x1 x2
    go_wp2
    go_ret
    exact ⟨rfl, bstep gg0 g9⟩

/-- What lets a frame in, as it is called: the frame lies in a box. -/
theorem lets_any (w : World) (x : Fi) (hx : x.Ok) (b id : Nat) (e r : Bool) (dl : Value) (cd : Value) (hid' : id < 4294967296) (hb : w.heap[b]? = some (.cells #[.int .u32 (id : Int), .bool e, .bool r, dl, cd] 35 (0, 0))) :
    Calls Tryz.prog 87 #[.agg (fiV x), .pointer (some ⟨b, 0, none⟩)] w fun r w' => r = .returned (.bool (letsF id e x)) ∧ Below w.heap.size w w' := by
  have kR := hid (fun w => fiRight_any x hx w)
  obtain ⟨e', m, a⟩ := x
  obtain ⟨h1, h2⟩ := hx
  simp only at h1 h2
  have hA := (u32_bits id m hid' h1).1
  have hl : ∀ u, id &&& m = u → letsF id e ⟨e', m, a⟩ = (rightF ⟨e', m, a⟩ && (e' == e) && decide (u = a)) := fun u hu => by rw [letsF, hu]
  generalize hu : id &&& m = u at hA
  rw [hl u hu]
  clear hl hu
  show Calls _ _ #[.agg #[.bool e', .int .u32 (m : Int), .int .u32 (a : Int)], _] _ _
  have kR' : ∀ w, Calls Tryz.prog 21 #[.agg #[.bool e', .int .u32 (m : Int), .int .u32 (a : Int)]] w fun r w' => r = .returned (.bool (rightF ⟨e', m, a⟩)) ∧ Below w.heap.size w w' := kR.out
  clear kR
  generalize rightF ⟨e', m, a⟩ = q at *
  have HR := hid kR'; clear kR'
  have hlt := bx_lt hb
  have hne : b ≠ w.heap.size := by omega
  have hbx := heap_alloc_new w (.cells #[.bool e', .int .u32 (m : Int), .int .u32 (a : Int)] 69)
  have gg0 := bnew0 w (.cells #[.bool e', .int .u32 (m : Int), .int .u32 (a : Int)] 69)
  have hb0 := bx_below hb gg0
  have d3 : ((u : Int) == (a : Int)) = decide (u = a) := by by_cases h : u = a <;> simp [h]; omega
  clear hb
  go_enter Tryz.func87, Tryz.ntmps87
  cases q
  · go_wp2_with (first
      | (with_reducible refine wpList_loadR rowFi rfl _ rfl _ rfl hbx rfl ?_)
      | (go_at_call 21; (with_reducible refine (HR.out _).mono ?_); rintro r w9 ⟨rfl, g9⟩))
    go_ret
    exact ⟨rfl, bstep gg0 g9⟩
  · cases he : (e' == e)
    · go_wp2_with (first
        | (with_reducible refine wpList_loadR rowFi rfl _ rfl _ rfl hbx rfl ?_)
        | (go_at_call 21; (with_reducible refine (HR.out _).mono ?_); rintro r w9 ⟨rfl, g9⟩; (obtain ⟨y0, y1, y2⟩ := bx3F (bx_below hbx g9)); (obtain ⟨z0, z1, z2, z3, z4⟩ := bx5 (bx_below hb0 g9))))
      go_ret
      exact ⟨rfl, bstep gg0 g9⟩
    · go_wp2_with (first
        | (with_reducible refine wpList_loadR rowFi rfl _ rfl _ rfl hbx rfl ?_)
        | (go_at_call 21; (with_reducible refine (HR.out _).mono ?_); rintro r w9 ⟨rfl, g9⟩; (obtain ⟨y0, y1, y2⟩ := bx3F (bx_below hbx g9)); (obtain ⟨z0, z1, z2, z3, z4⟩ := bx5 (bx_below hb0 g9))))
      go_ret
      exact ⟨ret_bool (by rw [← d3]; rfl), bstep gg0 g9⟩
end Go.Proofs.YtajdbimdiodalaaGreat

namespace Go.Proofs.YtajdbimdiodalaaGreat
open Go.RowKit Go.Sort
set_option linter.unusedVariables false

/-- A frame's cells, of which a filter asks two. -/
abbrev fmV (id : Nat) (e r : Bool) (dl cd : Value) : Array Value := #[.int .u32 (id : Int), .bool e, .bool r, dl, cd]

theorem accepts_any (w : World) (id : Nat) (e r : Bool) (dl cd : Value) :
    Calls Tryz.prog 57 #[.agg (fmV id e r dl cd)] w fun q w' => q = .returned (.func (.func 87) #[] #[.pointer (some ⟨w.heap.size, 0, none⟩)]) ∧ w' = w.alloc (.cells (fmV id e r dl cd) 35) := by
  have hmf : ∀ w', (Instr.makeFunc (.func 87) #[] #[.pointer (some ⟨w.heap.size, 0, none⟩)]).run Tryz.prog w' = .ok (.func (.func 87) #[] #[.pointer (some ⟨w.heap.size, 0, none⟩)]) w' := fun w' => rfl
  go_enter Tryz.func57, Tryz.ntmps57
  go_wp2
  go_ret
  exact ⟨rfl, rfl⟩

set_option maxHeartbeats 1000000 in
theorem fiIndex_any (w : World) (a : Option Addr) (n c : Nat) (l : List Fi) (b id : Nat) (e r : Bool) (dl cd : Value) (h : RK fiE 3 w a n c l) (hok : ∀ x ∈ l, x.Ok) (hn : n ≤ 100000) (hi : id < 4294967296) (hb : w.heap[b]? = some (.cells (fmV id e r dl cd) 35 (0, 0))) :
    Calls Tryz.prog 65 #[.slice a n c, .func (.func 87) #[] #[.pointer (some ⟨b, 0, none⟩)]] w fun q w' => q = .returned (.int .i64 (fiF id e l)) ∧ Below w.heap.size w w' := by
  have HL := hid h.len
  have HO := hid hok; clear hok
  go_enter Tryz.func65, Tryz.ntmps65
  go_wp2
  go_loopg [8] n (fun gn vi wr => ∃ k : Nat, k ≤ n ∧ gn = n - k ∧ vi = .int .i64 (k : Int) ∧ Hid (anyF id e (l.take k) = false) ∧ Below w.heap.size w wr)
  case atStart => exact ⟨0, by omega, by omega, rfl, by rw [List.take_zero]; rfl, Below.refl _ _⟩
  case round =>
    obtain ⟨k, hk, rfl, rfl, HF, hbl⟩ := hrel
    by_cases hlt : k < n
    · obtain ⟨p, hp⟩ : ∃ p, l[k]? = some p := ⟨l[k]'(by rw [HL.out]; exact hlt), by simp⟩
      obtain ⟨gb, off, rfl, hgb, hr⟩ := (h.below hbl).range hp
      have hcl := lets_any wr p (HO.out p (List.mem_of_getElem? hp)) b id e r dl cd hi (bx_below hb hbl)
      have HP := hid hp; clear hp
      cases he : letsF id e p
      · rw [he] at hcl
        have HE := hid he; clear he
        go_wp2_with (first
          | (with_reducible refine wpList_loadM rowFi rfl _ rfl _ _ rfl (fiV p) hr rfl ?_)
          | (go_at_call 87; (with_reducible refine hcl.mono ?_); rintro q w1 ⟨rfl, g1⟩))
        go_roundg (n - (k + 1))
        case measure => omega
        case rel => exact ⟨k + 1, by omega, rfl, by go_num, by show _ = _; rw [anyF_take HP.out, HF.out, HE.out]; rfl, bstep hbl g1⟩
      · rw [he] at hcl
        have HE := hid he; clear he
        go_wp2_with (first
          | (with_reducible refine wpList_loadM rowFi rfl _ rfl _ _ rfl (fiV p) hr rfl ?_)
          | (go_at_call 87; (with_reducible refine hcl.mono ?_); rintro q w1 ⟨rfl, g1⟩))
        go_ret
        exact ⟨ret_int (fiF_at HP.out HE.out HF.out).symm, bstep hbl g1⟩
    · obtain rfl : k = n := by omega
      go_wp2
      go_ret
      exact ⟨ret_int (fiF_no (by have := HF.out; rwa [List.take_of_length_le (by rw [HL.out]; exact Nat.le_refl _)] at this)).symm, hbl⟩

theorem fiContains_any (w : World) (a : Option Addr) (n c : Nat) (l : List Fi) (b id : Nat) (e r : Bool) (dl cd : Value) (h : RK fiE 3 w a n c l) (hok : ∀ x ∈ l, x.Ok) (hn : n ≤ 100000) (hi : id < 4294967296) (hb : w.heap[b]? = some (.cells (fmV id e r dl cd) 35 (0, 0))) :
    Calls Tryz.prog 34 #[.slice a n c, .func (.func 87) #[] #[.pointer (some ⟨b, 0, none⟩)]] w fun q w' => q = .returned (.bool (anyF id e l)) ∧ Below w.heap.size w w' := by
  have hc := fiIndex_any w a n c l b id e r dl cd h hok hn hi hb
  rw [← fiF_ge]
  generalize fiF id e l = v at *
  go_enter Tryz.func34, Tryz.ntmps34
  go_wp2_with (go_at_call 65; (with_reducible refine hc.mono ?_); rintro q w1 ⟨rfl, g1⟩)
  all_goals (go_ret; exact ⟨ret_bool (by simp), g1⟩)

theorem fiPass_any (w : World) (a : Option Addr) (n c : Nat) (l : List Fi) (id : Nat) (e r : Bool) (dl cd : Value) (h : RK fiE 3 w a n c l) (hok : ∀ x ∈ l, x.Ok) (hn : n ≤ 100000) (hi : id < 4294967296) :
    Calls Tryz.prog 25 #[.slice a n c, .agg (fmV id e r dl cd)] w fun q w' => q = .returned (.bool (passF id e l)) ∧ Below w.heap.size w w' := by
  have hb0 := heap_alloc_new w (.cells (fmV id e r dl cd) 35)
  have g0 := bnew0 w (.cells (fmV id e r dl cd) 35)
  have hb1 := heap_alloc_new (w.alloc (.cells (fmV id e r dl cd) 35)) (.cells (fmV id e r dl cd) 35)
  rw [heap_size_alloc] at hb1
  have g1 := bnew g0 (.cells (fmV id e r dl cd) 35)
  have hc := fiContains_any _ a n c l _ id e r dl cd (h.below g1) hok hn hi hb1
  rw [passF, h.len]
  generalize anyF id e l = v at *
  by_cases h0 : n = 0
  · subst h0
    go_enter Tryz.func25, Tryz.ntmps25
    go_wp2
    go_ret
    exact ⟨rfl, g0⟩
  · have d1 : ((n : Int) == 0) = false := by simp; omega
    rw [decide_eq_false h0, Bool.false_or]
    clear h0
    go_enter Tryz.func25, Tryz.ntmps25
    go_wp2_with (first
      | (with_reducible refine wpList_loadW rowF (by simp [Region.wanted, yielded]) _ rfl _ rfl hb0 rfl ?_)
      | (go_at_call 57; (with_reducible refine (accepts_any _ id e r dl cd).mono ?_); rintro q w1 ⟨rfl, rfl⟩)
      | (go_at_call 34; (with_reducible refine hc.mono ?_); rintro q w2 ⟨rfl, g2⟩))
    go_ret
    exact ⟨rfl, bstep g1 g2⟩
end Go.Proofs.YtajdbimdiodalaaGreat

namespace Go.Proofs.YtajdbimdiodalaaGreat
open Go.RowKit Go.Sort
set_option linter.unusedVariables false

end Go.Proofs.YtajdbimdiodalaaGreat

namespace Go.Proofs.YtajdbimdiodalaaGreat
open Go.RowKit
set_option linter.unusedVariables false

/-- A received frame: the frame, where its data lie, its time. -/
abbrev Rx := Ff × Int
abbrev rxV (p : Rx) : Array Value := #[.int .u32 (p.1.1.id : Int), .bool p.1.1.ext, .bool p.1.1.rem, .int .u8 (p.1.1.dlc : Int), .slice p.1.2.1 p.1.1.data.length p.1.2.2, .int .i64 p.2]
abbrev rxZ : Array Value := #[.int .u32 0, .bool false, .bool false, .int .u8 0, .slice none 0 0, .int .i64 0]
theorem rx_ones (p : Rx) : (rxV p).all (·.oneCell') = true := by kernel_rfl
def enX (p : Rx) : List Value := (rxV p).toList
theorem enX_k : EnK enX 6 := ⟨fun _ => rfl, fun p v hv => (Array.all_eq_true_iff_forall_mem.1 (rx_ones p)) v (by simpa [enX] using hv)⟩
theorem elX : ElK Tryz.prog 46 80 6 (.agg rxZ) 40 := ⟨by kernel_rfl, by kernel_rfl, by kernel_rfl, by kernel_rfl, rfl, by omega⟩
theorem rowX : RowT Tryz.prog 80 6 := rowT_of (by kernel_rfl) (by kernel_rfl)
def x0X : Rx := ((⟨0, false, false, 0, []⟩, (none, 0)), 0)
theorem rxZ_list : rxZ.toList = enX x0X := rfl
theorem rxZ_ones : rxZ.all (·.oneCell') = true := by kernel_rfl

/-- A fifo. -/
structure Fm where
  room : Nat
  fs : List Rx
  ov : Bool

abbrev ffV (g s : Nat) (m : Fm) (a : Option Addr) (c : Nat) : Array Value := #[.pointer (some ⟨g, 0, none⟩), .int .i64 (m.room : Int), .slice (some ⟨s, 0, none⟩) (2 * m.room) (2 * m.room), .slice a m.fs.length c, .bool m.ov]

/-- A received frame whose data lie in memory of the call's own. -/
def RxO (B : Nat) (w : World) (p : Rx) : Prop := OL bv 5 B w p.1.2.1 p.1.1.data.length p.1.2.2 p.1.1.data
/-- The data of two lie in blocks of their own. -/
def Apart (p q : Rx) : Prop := ∀ x y, p.1.2.1 = some x → q.1.2.1 = some y → x.block ≠ y.block

/-- A fifo in its box g, its store in block s: the frames are a part of the store; all its blocks lie from B on, and are in S. -/
structure FfO (B : Nat) (w : World) (g s : Nat) (m : Fm) (a : Option Addr) (c : Nat) (st : List Rx) (S : Nat → Prop) : Prop where
  box : w.heap[g]? = some (.cells (ffV g s m a c) 140 (0, 0))
  row : OK enX 6 80 B w (some ⟨s, 0, none⟩) (2 * m.room) (2 * m.room) st
  ad : 0 < c → a = some ⟨s, (2 * m.room - c) * 6, none⟩
  cle : c ≤ 2 * m.room
  nle : m.fs.length ≤ c
  fr : ∀ (i : Nat) (x : Rx), m.fs[i]? = some x → st[2 * m.room - c + i]? = some x
  dat : ∀ p ∈ m.fs, RxO B w p
  hB : B ≤ g
  sg : S g
  ss : S s
  ng : s ≠ g
  sd : ∀ p ∈ m.fs, ∀ q, p.1.2.1 = some q → S q.block
  sB : ∀ k, S k → B ≤ k
  nd : ∀ p ∈ m.fs, NB p.1.2.1 g ∧ NB p.1.2.1 s
  pw : m.fs.Pairwise Apart
  r1 : 1 ≤ m.room
  rm : m.room ≤ 256
  le : m.fs.length ≤ m.room
  sL : ∀ k, S k → k < w.heap.size

section
variable {B : Nat} {w w1 : World} {g s : Nat} {m : Fm} {a : Option Addr} {c : Nat} {st : List Rx} {S S1 : Nat → Prop}

theorem RxO.ch {p : Rx} (h : RxO B w p) (k : Ch S w w1) (hn : ∀ q, p.1.2.1 = some q → ¬ S q.block) : RxO B w1 p := OL.ch h k hn
theorem RxO.below {p : Rx} (h : RxO B w p) (k : Below w.heap.size w w1) : RxO B w1 p := OL.below h k
theorem FfO.lt (h : FfO B w g s m a c st S) : g < w.heap.size := bx_lt h.box
/-- What changes none of its blocks leaves a fifo. -/
theorem FfO.ch (h : FfO B w g s m a c st S) (k : Ch S1 w w1) (hn : ∀ b, S b → ¬ S1 b) : FfO B w1 g s m a c st S :=
  ⟨k.bx h.box (hn _ h.sg), h.row.ch k (fun q hq => by cases hq; exact hn _ h.ss), h.ad, h.cle, h.nle, h.fr, fun p hp => (h.dat p hp).ch k (fun q hq => hn _ (h.sd p hp q hq)), h.hB, h.sg, h.ss, h.ng, h.sd, h.sB, h.nd, h.pw, h.r1, h.rm, h.le, fun q hq => Nat.lt_of_lt_of_le (h.sL q hq) k.size⟩
theorem FfO.below (h : FfO B w g s m a c st S) (k : Below w.heap.size w w1) : FfO B w1 g s m a c st S := h.ch (S1 := fun _ => False) (Ch.of_below k) (fun _ _ e => e)
theorem FfO.alloc (h : FfO B w g s m a c st S) (o : Obj) : FfO B (w.alloc o) g s m a c st S := h.below (bnew0 w o)
theorem FfO.drewN (h : FfO B w g s m a c st S) (q : Nat) : FfO B (w.drewN q) g s m a c st S := h.below (below_drewN (Below.refl _ _) q)
theorem FfO.thaw (h : FfO B w g s m a c st S) (i : Nat) : w.frozen? ⟨g, i, none⟩ = false := bx_thaw h.box i

/-- The flag, stored. -/
theorem FfO.flag (h : FfO B w g s m a c st S) (v : Bool) : FfO B (w.setCell ⟨g, 4, none⟩ (.bool v)) g s { m with ov := v } a c st S := by
  have k : Ch (fun b => b = g) w (w.setCell ⟨g, 4, none⟩ (.bool v)) := Ch.setCell (S := fun b => b = g) (Ch.refl _ w) (p := ⟨g, 4, none⟩) (.inl rfl) _
  refine ⟨heap_setCell_same w g 4 _ _ _ h.box, ?_, h.ad, h.cle, h.nle, h.fr, fun p hp => (h.dat p hp).ch k (fun q hq e => (h.nd p hp).1 q hq e), h.hB, h.sg, h.ss, h.ng, h.sd, h.sB, h.nd, h.pw, h.r1, h.rm, h.le, fun q hq => Nat.lt_of_lt_of_le (h.sL q hq) k.size⟩
  exact h.row.ch k (fun q hq => by cases hq; exact h.ng)
/-- The frames, as a list that is read. -/
theorem FfO.rk (h : FfO B w g s m a c st S) : RK enX 6 w a m.fs.length c m.fs := by
  refine ⟨rfl, h.nle, fun hn => ?_⟩
  have hc : 0 < c := Nat.lt_of_lt_of_le hn h.nle
  rw [h.ad hc]
  refine ⟨s, (2 * m.room - c) * 6, rfl, h.sL _ h.ss, fun i x j v hx hv => ?_⟩
  have h1 := h.fr i x hx
  have h2 := h.row.range enX_k h1 j v hv
  rw [← h2]
  congr 2
  rw [Nat.add_mul]; omega
end

/-- Elements written anew, one behind the other, in a row that the call owns. -/
theorem OK.puts {α : Type} {enc : α → List Value} {k B n c g : Nat} {E : TypeId} {w : World} {l : List α} (hk : EnK enc k) (h : OK enc k E B w (some ⟨g, 0, none⟩) n c l) (i : Nat) (xs : List α) (hi : i + xs.length ≤ n) :
    OK enc k E B (w.setCells g (i * k) (xs.flatMap enc)) (some ⟨g, 0, none⟩) n c (l.take i ++ xs ++ l.drop (i + xs.length)) := by
  rcases h.ex with ⟨h0, _⟩ | ⟨g', cur, h1, h2, h3, h4, h5, h6⟩
  · cases h0
  · cases h1
    have hl := h.len
    have hle : (xs.flatMap enc).length = xs.length * k := flat_len hk xs
    have hnk : (i + xs.length) * k ≤ n * k := Nat.mul_le_mul_right k hi
    have hck : n * k ≤ c * k := Nat.mul_le_mul_right k h.cap
    rw [Nat.add_mul] at hnk
    have hll : (l.take i ++ xs ++ l.drop (i + xs.length)).length = n := by
      simp only [List.length_append, List.length_take, List.length_drop, hl, Nat.min_eq_left (show i ≤ n by omega)]; omega
    refine ⟨hll, h.cap, by rw [flat_len hk, hll], .inr ⟨g, c, _, rfl, h2, heap_setCells_same g E _ _ _ _ h3, h.cap, h6, by rw [wrC_size]; exact h4, ?_⟩⟩
    have hcl : cur.toList.length = c * k := by rw [Array.length_toList, h4]
    have e1 : (l.take i).flatMap enc = (l.flatMap enc).take (i * k) := by
      have e : l.flatMap enc = (l.take i).flatMap enc ++ (l.drop i).flatMap enc := by rw [← List.flatMap_append, List.take_append_drop]
      have h2 : ((l.take i).flatMap enc).length = i * k := by rw [flat_len hk, List.length_take, Nat.min_eq_left (by omega)]
      rw [e, ← h2, List.take_left]
    have e2 : (l.drop (i + xs.length)).flatMap enc = (l.flatMap enc).drop (i * k + xs.length * k) := by
      have e : l.flatMap enc = (l.take (i + xs.length)).flatMap enc ++ (l.drop (i + xs.length)).flatMap enc := by rw [← List.flatMap_append, List.take_append_drop]
      have h2 : ((l.take (i + xs.length)).flatMap enc).length = i * k + xs.length * k := by rw [flat_len hk, List.length_take, Nat.min_eq_left (by omega), Nat.add_mul]
      rw [e, ← h2, List.drop_left]
    rw [wrC_list _ _ _ (by rw [hle, h4]; omega), List.flatMap_append, List.flatMap_append, e1, e2, ← h5]
    have := take_splice cur.toList (xs.flatMap enc) (i * k) (n * k) (by rw [hle]; omega) (by rw [hcl]; exact hck)
    rw [hle] at this
    rw [hle]
    exact this

/-- A row of structs is copied into another place of the same block, or into another block: all is read first. -/
theorem run_copyK {P : Program} {T E : TypeId} {k bytes : Nat} {z : Value} (hT : ElK P T E k z bytes) (w : World) (ty : TypeId) (b o dLen dCap : Nat) (a : Option Addr) (n c : Nat) (cs : List Value)
    (hn : n ≤ dLen) (hl : cs.length = n * k) (hsrc : 0 < n → ∃ ad, a = some ad ∧ ∀ j v, cs[j]? = some v → w.cell? (ad.add j) = some v)
    (hc : ∀ j, j < cs.length → (w.cell? ⟨b, o + j, none⟩).isSome = true) (hf : ∀ j, j < cs.length → w.frozen? ⟨b, o + j, none⟩ = false) (h1 : ∀ v ∈ cs, v.oneCell' = true) :
    (Builtin.copy_ #[T, T] ty #[.slice (some ⟨b, o, none⟩) dLen dCap, .slice a n c]).run P w = .ok (goInt n) (w.setCells b o cs) := by
  obtain ⟨i, hi, hz0, hz1, hz2⟩ := info_parts hT.info
  have hmin : Nat.min n dLen = n := Nat.min_eq_left hn
  have hst := run_storeCells_cells (P := P) b o cs 0 w (by simpa using hc) (by simpa using hf) h1
  by_cases h0 : n = 0
  · subst h0
    rw [Nat.zero_mul] at hl
    have hcs : cs = [] := List.eq_nil_of_length_eq_zero hl
    subst hcs
    have hl0 : ∀ (x : Addr), (loadCells x 0).run P w = .ok #[] w := fun x => by simpa using run_loadCells_list (P := P) w x [] (by simp)
    cases a <;> simp [Builtin.copy_, run_underlying hT.und, Builtin.lenOf, Builtin.firstCells, sizeOf, typeInfo, hi, storeCells, hl0, World.setCells]
  · obtain ⟨ad, rfl, hs⟩ := hsrc (by omega)
    have hld := run_loadCells_list (P := P) w ad cs hs
    rw [hl] at hld
    simp only [Nat.add_zero] at hst
    simp [Builtin.copy_, run_underlying hT.und, Builtin.lenOf, Builtin.firstCells, sizeOf, typeInfo, hi, hz1, hmin, hld, hst]

/-- A part of a row of structs is cleared. -/
theorem run_clearK {P : Program} {T E : TypeId} {k bytes : Nat} {z : Value} {α : Type} {enc : α → List Value} (hk : EnK enc k) (hT : ElK P T E k z bytes) (z0 : α) (hz : z.cells.toList = enc z0) (w : World) (ty : TypeId) (b o n c : Nat)
    (hc : ∀ j, j < n * k → (w.cell? ⟨b, o + j, none⟩).isSome = true) (hf : ∀ j, j < n * k → w.frozen? ⟨b, o + j, none⟩ = false) :
    (Builtin.clear_ #[T] ty #[.slice (some ⟨b, o, none⟩) n c]).run P w = .ok (.tuple #[]) (w.setCells b o ((List.replicate n z0).flatMap enc)) := by
  obtain ⟨i, hi, hz0, hz1, hz2⟩ := info_parts hT.info
  have hl : ((List.replicate n z0).flatMap enc).length = n * k := by rw [flat_len hk, List.length_replicate]
  have hst := run_storeCells_cells (P := P) b o ((List.replicate n z0).flatMap enc) 0 w (by rw [hl]; simpa using hc) (by rw [hl]; simpa using hf) (flat_one hk _)
  simp only [Nat.add_zero] at hst
  have hzc : (Builtin.zeroCells z.cells n).toList = (List.replicate n z0).flatMap enc := by
    have := made_flat hk hT.pos z.cells z0 hz n
    rw [← this]
    show (madeCells z.cells (n * z.cells.size)).toList = _
    rw [hT.zc]
  cases n with
  | zero => simp [Builtin.clear_, run_underlying hT.und, World.setCells]
  | succ n => simp [Builtin.clear_, run_underlying hT.und, zeroValue, typeInfo, hi, hz0, hzc, hst]

section
variable {P : Program} {T E : TypeId} {k bytes : Nat} {z : Value} {ops : Array Oper} {rest : List Oper} {o : Oper} {ac : Act} {w : World} {K : Act → World → Prop} {Q : Exit → Act → World → Prop} {R : Prop} {a a' : Option Addr} {n c N C : Nat}

/-- A copy of structs, as one step of a region that draws. -/
theorem step_copyK (hT : ElK P T E k z bytes) (hgd : o.guard = none) (d s : Operand) (ho : o.op = .call { callee := .builtin .copy, args := #[d, s], argTypes := #[T, T] })
    (b off dLen dCap : Nat) (hd : ac.eval d = .slice (some ⟨b, off, none⟩) dLen dCap) (hs : ac.eval s = .slice a n c) (cs : List Value)
    (hn : n ≤ dLen) (hl : cs.length = n * k) (hsrc : 0 < n → ∃ ad, a = some ad ∧ ∀ j v, cs[j]? = some v → w.cell? (ad.add j) = some v)
    (hc : ∀ j, j < cs.length → (w.cell? ⟨b, off + j, none⟩).isSome = true) (hf : ∀ j, j < cs.length → w.frozen? ⟨b, off + j, none⟩ = false) (h1 : ∀ v ∈ cs, v.oneCell' = true)
    (h : K (ac.put o.dst (goInt n)) (w.setCells b off cs)) : if Region.wanted o (yielded ops ac.tmps) = true then Oper.wp P o ac w K Q else R := by
  rw [if_pos (by simp [Region.wanted, hgd])]
  have hrun := run_copyK (P := P) hT w o.type b off dLen dCap a n c cs hn hl hsrc hc hf h1
  unfold Oper.wp
  simp [execOp, ho, resolve, invoke, builtin, hd, hs, hrun, Result.andThen]
  exact h

/-- A row, or a part of it, is cleared. -/
theorem wpList_clearK {α : Type} {enc : α → List Value} (hk : EnK enc k) (hT : ElK P T E k z bytes) (z0 : α) (hz : z.cells.toList = enc z0) (hgd : o.guard = none) (s : Operand) (ho : o.op = .call { callee := .builtin .clear, args := #[s], argTypes := #[T] })
    (b off : Nat) (hs : ac.eval s = .slice (some ⟨b, off, none⟩) n c)
    (hc : ∀ j, j < n * k → (w.cell? ⟨b, off + j, none⟩).isSome = true) (hf : ∀ j, j < n * k → w.frozen? ⟨b, off + j, none⟩ = false)
    (h : wpList P ops Q rest (ac.put o.dst (.tuple #[])) (w.setCells b off ((List.replicate n z0).flatMap enc))) : wpList P ops Q (o :: rest) ac w := by
  refine wpList_plain hgd fun K hK => ?_
  have hrun := run_clearK (P := P) hk hT z0 hz w o.type b off n c hc hf
  unfold Oper.wp
  simp [execOp, ho, resolve, invoke, builtin, hs, hrun, Result.andThen]
  exact hK _ _ h

/-- 'v[lo:]', what comes of it given. -/
theorem wpList_cutFromS (hT : ElK P T E k z bytes) (hgd : o.guard = none) (s lo : Operand) (ho : o.op = .slice T s (some lo) none none) (kl : IntKind) (L : Int) (l0 : Nat) (hs : ac.eval s = .slice a n c) (hl : ac.eval lo = .int kl L) (hL : L = (l0 : Int)) (h2 : l0 ≤ n)
    (he : Go.sliced a l0 n c k = .slice a' N C) (h : wpList P ops Q rest (ac.put o.dst (.slice a' N C)) w) : wpList P ops Q (o :: rest) ac w := by
  subst hL
  refine wpList_plain hgd fun K hK => ?_
  have hu : P.underlying T = some (.slice (P.elem T)) := by rw [hT.und, hT.el]
  have hrun := run_slice_l (P := P) w T a n c hu kl l0 (by omega) (by omega)
  unfold Oper.wp
  simp only [Int.toNat_natCast, run_sizeOf_k hT, Result.andThen] at hrun
  simp [execOp, ho, hs, hl, run_sliceAt_slice w T _ _ _ _ hu, hrun, he, Result.andThen]
  exact hK _ _ h
end
end Go.Proofs.YtajdbimdiodalaaGreat

namespace Go.Proofs.YtajdbimdiodalaaGreat
open Go.RowKit
set_option linter.unusedVariables false

theorem eqFf (w : World) (g : Nat) : (binOp .eql 94 (.pointer (some ⟨g, 0, none⟩)) (.pointer (some ⟨g, 0, none⟩))).run Tryz.prog w = .ok (.bool true) w := by
  obtain ⟨j, hj⟩ := Option.isSome_iff_exists.1 (show (Tryz.prog.info? 140).isSome = true by kernel_rfl)
  exact run_eql_ptr_same w _ (by kernel_rfl) hj
section
variable {B : Nat} {w w1 : World} {g s : Nat} {m : Fm} {a : Option Addr} {c : Nat} {st : List Rx} {S : Nat → Prop} {v : Value}

set_option maxRecDepth 100000 in
theorem ffMade_any (h : FfO B w g s m a c st S) : Calls Tryz.prog 77 #[.pointer (some ⟨g, 0, none⟩)] w fun e w' => e = .returned (.bool true) ∧ w = w' := by
  have q0 := (bx5 h.box).1
  have qe := fun w => eqFf w g
  go_enter Tryz.func77, Tryz.ntmps77
  go_wp2
  go_ret
  exact ⟨rfl, rfl⟩

set_option maxRecDepth 100000 in
theorem ffLen_any (h : FfO B w g s m a c st S) : Calls Tryz.prog 48 #[.pointer (some ⟨g, 0, none⟩)] w fun e w' => e = .returned (.int .i64 (m.fs.length : Int)) ∧ w = w' := by
  have q3 := (bx5 h.box).2.2.2.1
  have hm := ffMade_any h
  go_enter Tryz.func48, Tryz.ntmps48
  go_wp2_with (go_at_call 77; (refine hm.mono ?_); rintro e w1 ⟨rfl, rfl⟩)
  go_ret
  exact ⟨rfl, rfl⟩

set_option maxRecDepth 100000 in
theorem ffOver_any (h : FfO B w g s m a c st S) : Calls Tryz.prog 49 #[.pointer (some ⟨g, 0, none⟩)] w fun e w' => e = .returned (.bool m.ov) ∧ w = w' := by
  have q4 := (bx5 h.box).2.2.2.2
  have hm := ffMade_any h
  go_enter Tryz.func49, Tryz.ntmps49
  go_wp2_with (go_at_call 77; (refine hm.mono ?_); rintro e w1 ⟨rfl, rfl⟩)
  go_ret
  exact ⟨rfl, rfl⟩

/-- A new fifo. -/
def neF (room : Nat) : Fm := ⟨room, [], false⟩
def NewFf (w : World) (room : Nat) (e : Ending) (w' : World) : Prop :=
  ∃ g s, e = .returned (.tuple #[.pointer (some ⟨g, 0, none⟩), .int .i64 0]) ∧ FfO w.heap.size w' g s (neF room) none 0 (List.replicate (2 * room) x0X) (fun b => b = g ∨ b = s) ∧ Below w.heap.size w w'
theorem neF_ok {w w1 : World} {room : Nat} (h1 : 1 ≤ room) (h2 : room ≤ 256) (o1 : OK enX 6 80 w.heap.size w1 (some ⟨w.heap.size, 0, none⟩) (2 * room) (2 * room) (List.replicate (2 * room) x0X)) (z1 : w1.heap.size = w.heap.size + 1) :
    FfO w.heap.size (w1.alloc (.cells (ffV (w.heap.size + 1) w.heap.size (neF room) none 0) 140)) (w.heap.size + 1) w.heap.size (neF room) none 0 (List.replicate (2 * room) x0X) (fun b => b = w.heap.size + 1 ∨ b = w.heap.size) := by
  have hb := heap_alloc_new w1 (.cells (ffV (w.heap.size + 1) w.heap.size (neF room) none 0) 140)
  rw [z1] at hb
  exact ⟨hb, o1.alloc _, fun h => absurd h (by omega), Nat.zero_le _, Nat.le_refl _, fun i x h => (by simp [neF] at h), fun p hp => (by cases hp), by omega, .inl rfl, .inr rfl, by omega, fun p hp => (by cases hp), fun k hk => (by rcases hk with h | h <;> omega), fun p hp => (by cases hp), List.Pairwise.nil, h1, h2, Nat.zero_le _, fun k hk => (by rw [heap_size_alloc, z1]; rcases hk with h | h <;> omega)⟩

set_option maxRecDepth 100000 in
set_option maxHeartbeats 1000000 in
theorem ffNew_any (w : World) (room : Nat) (h1 : 1 ≤ room) (h2 : room ≤ 256) :
    Calls Tryz.prog 36 #[.int .i64 (room : Int)] w (NewFf w room) := by
  have i1 : ¬ (room : Int) < 1 := by omega
  have i2 : ¬ (256 : Int) < (room : Int) := by omega
  obtain ⟨R, hR⟩ : ∃ R, R = 2 * room := ⟨_, rfl⟩
  have hRi : Hid ((2 : Int) * (room : Int) = (R : Int)) := by show _ = _; omega
  have hRm : R ≤ 1000000 := by omega
  go_enter Tryz.func36, Tryz.ntmps36
  go_wp2_with (refine wpList_mkK elX enX_k x0X rfl rfl _ _ rfl R _ _ .i64 .i64 rfl rfl hRi.out hRi.out hRm (by omega) ?_; intro w1 o1 g1 z1)
  go_ret2
  subst hR
  exact ⟨w.heap.size + 1, w.heap.size, rfl, neF_ok h1 h2 o1 z1, bnew g1 _⟩

/-- What Pop leaves of a fifo. -/
def poF (m : Fm) : Fm := { m with fs := m.fs.drop 1 }

theorem rx_sliced (s off c n : Nat) (hn : 1 ≤ n) : ∃ a', Go.sliced (some ⟨s, off * 6, none⟩) 1 n c 6 = .slice a' (n - 1) (c - 1) ∧ (1 < c → a' = some ⟨s, (off + 1) * 6, none⟩) := by
  refine ⟨_, rfl, fun h => ?_⟩
  rw [if_neg (by omega)]
  simp [Addr.add_lit]
  try omega

theorem ffPop_fin {W w4 : World} {a' : Option Addr} {x : Rx} (h3 : FfO B W g s m a c st S) (h0 : m.fs[0]? = some x)
    (o4 : OK enX 6 80 B w4 (some ⟨s, 0, none⟩) (2 * m.room) (2 * m.room) (st.set (2 * m.room - c) x0X)) (k4 : Wr s W w4) (z4 : w4.heap.size = W.heap.size) (ha' : 1 < c → a' = some ⟨s, (2 * m.room - c + 1) * 6, none⟩) :
    FfO B (w4.setCell ⟨g, 3, none⟩ (.slice a' (m.fs.length - 1) (c - 1))) g s (poF m) a' (c - 1) (st.set (2 * m.room - c) x0X) (fun b => S b ∧ ∀ q, x.1.2.1 = some q → b ≠ q.block) ∧
    RxO B (w4.setCell ⟨g, 3, none⟩ (.slice a' (m.fs.length - 1) (c - 1))) x ∧ Ch (fun b => b = g ∨ b = s) W (w4.setCell ⟨g, 3, none⟩ (.slice a' (m.fs.length - 1) (c - 1))) := by
  have b4 := (k4.block g h3.lt (Ne.symm h3.ng)).trans h3.box
  have kc : Ch (fun b => b = g ∨ b = s) W (w4.setCell ⟨g, 3, none⟩ (.slice a' (m.fs.length - 1) (c - 1))) :=
    Ch.setCell (S := fun b => b = g ∨ b = s) ⟨k4.os, k4.tape, k4.output, k4.size, fun b hb hn => k4.block b hb (fun e => hn (.inr e))⟩ (p := ⟨g, 3, none⟩) (.inl (.inl rfl)) _
  have hmem : ∀ {p : Rx}, p ∈ m.fs.drop 1 → p ∈ m.fs := fun hp => List.mem_of_mem_drop hp
  have hx : x ∈ m.fs := List.mem_of_getElem? h0
  have hdat : ∀ p ∈ m.fs, RxO B (w4.setCell ⟨g, 3, none⟩ (.slice a' (m.fs.length - 1) (c - 1))) p := fun p hp => (h3.dat p hp).ch kc (fun q hq e => by
    rcases e with e | e
    · exact (h3.nd p hp).1 q hq e
    · exact (h3.nd p hp).2 q hq e)
  have hfs : m.fs = x :: m.fs.drop 1 := by
    cases hf : m.fs with
    | nil => rw [hf] at h0; simp at h0
    | cons y l => rw [hf] at h0; simp at h0; simp [h0]
  have hap : ∀ p ∈ m.fs.drop 1, Apart x p := fun p hp => by
    have := h3.pw
    rw [hfs] at this
    exact (List.pairwise_cons.1 this).1 p hp
  have hlen : (poF m).fs.length = m.fs.length - 1 := by simp [poF]
  have hn1 : 1 ≤ m.fs.length := (List.getElem?_eq_some_iff.1 h0).1
  have hc := h3.nle
  have hcl := h3.cle
  refine ⟨⟨?_, ?_, fun h => ?_, ?_, ?_, fun i y hy => ?_, fun p hp => hdat p (hmem hp), h3.hB, ⟨h3.sg, fun q hq e => (h3.nd x hx).1 q hq e.symm⟩, ⟨h3.ss, fun q hq e => (h3.nd x hx).2 q hq e.symm⟩, h3.ng, fun p hp q hq => ⟨h3.sd p (hmem hp) q hq, fun r hr e => hap p hp r q hr hq e.symm⟩, fun k hk => h3.sB k hk.1, fun p hp => h3.nd p (hmem hp), ?_, h3.r1, h3.rm, ?_, fun k hk => Nat.lt_of_lt_of_le (h3.sL k hk.1) kc.size⟩, hdat x hx, kc⟩
  · rw [heap_setCell_same w4 g 3 _ _ _ b4]
    show some (Obj.cells #[_, _, _, Value.slice a' (m.fs.length - 1) (c - 1), _] _ _) = some (Obj.cells #[_, _, _, Value.slice a' (poF m).fs.length (c - 1), _] _ _)
    rw [hlen]
    rfl
  · exact o4.kept fun b hb => Below.heap_setCell _ _ _ _ (by cases hb; exact h3.ng)
  · rw [ha' (by omega)]
    show some _ = some (⟨s, (2 * m.room - (c - 1)) * 6, none⟩ : Addr)
    rw [show 2 * m.room - c + 1 = 2 * m.room - (c - 1) by omega]
  · show c - 1 ≤ 2 * m.room; omega
  · rw [hlen]; omega
  · have hy' : m.fs[i + 1]? = some y := by simpa [poF] using hy
    have := h3.fr _ _ hy'
    show (st.set (2 * m.room - c) x0X)[2 * m.room - (c - 1) + i]? = some y
    rw [List.getElem?_set_ne (by omega), ← this]
    congr 1; omega
  · have := h3.pw
    rw [hfs] at this
    exact (List.pairwise_cons.1 this).2
  · rw [hlen]; have := h3.le; show _ ≤ m.room; omega

set_option maxRecDepth 100000 in
set_option maxHeartbeats 4000000 in
theorem ffPop_any (h : FfO B w g s m a c st S) (x : Rx) (h0 : m.fs[0]? = some x) : Calls Tryz.prog 58 #[.pointer (some ⟨g, 0, none⟩)] w fun e w' => ∃ a', e = .returned (.tuple #[.agg (rxV x), .bool true]) ∧
    FfO B w' g s (poF m) a' (c - 1) (st.set (2 * m.room - c) x0X) (fun b => S b ∧ ∀ q, x.1.2.1 = some q → b ≠ q.block) ∧ RxO B w' x ∧ Ch (fun b => b = g ∨ b = s) w w' := by
  have hlen : 1 ≤ m.fs.length := (List.getElem?_eq_some_iff.1 h0).1
  have hc : 0 < c := Nat.lt_of_lt_of_le hlen h.nle
  have ha := h.ad hc
  obtain ⟨off, hoff⟩ : ∃ off, off = 2 * m.room - c := ⟨_, rfl⟩
  rw [← hoff] at ha
  have hst : st[off]? = some x := by have := h.fr 0 x h0; rwa [Nat.add_zero, ← hoff] at this
  obtain ⟨w0, hw0, hb, h1, hg⟩ : ∃ w0, Hid (w.alloc (.cells rxZ 80) = w0) ∧ w0.heap[w.heap.size]? = some (.cells rxZ 80 (0, 0)) ∧ FfO B w0 g s m a c st S ∧ Below w.heap.size w w0 := ⟨_, rfl, heap_alloc_new w _, h.alloc _, bnew0 w _⟩
  have hm := ffLen_any h1
  have q3 := (bx5 h1.box).2.2.2.1
  have hr := h1.row.range enX_k hst
  have HO := hid hoff
  rw [← hoff]
  clear hoff
  have hne : ((m.fs.length : Int) == 0) = false := by rw [beq_eq_false_iff_ne]; omega
  subst ha
  obtain ⟨a', hsl, ha'⟩ := rx_sliced s off c m.fs.length hlen
  have hoR : off < 2 * m.room := by have := HO.out; have := h.r1; omega
  go_enter Tryz.func58, Tryz.ntmps58
  go_wp2_with (first
    | (go_at_call 48; rw [hw0.out]; (refine hm.mono ?_); rintro e w1 ⟨rfl, rfl⟩)
    | (with_reducible refine wpList_loadM rowX rfl _ rfl _ _ rfl (rxV x) hr rfl ?_
       have b2 := heap_alloc_new w0 (.cells rxZ 80))
    | (with_reducible refine wpList_storeR rowX rfl _ _ rfl _ _ rfl rfl b2 rfl rfl (rx_ones _) ?_
       have gW : Below w0.heap.size w0 ((w0.alloc (.cells rxZ 80)).setRow w0.heap.size (rxV x)) := below_setRow (bnew0 w0 _) (Nat.le_refl _) _
       have bW : ((w0.alloc (.cells rxZ 80)).setRow w0.heap.size (rxV x)).heap[w0.heap.size]? = some (.cells (rxV x) 80 (0, 0)) := setRow_heap _ _ _ _ _ _ b2
       have h3 := h1.below gW
       have b3 := bx_below hb gW
       have gg3 := bstep hg gW
       clear q3 hr gW b2 hm
       generalize (w0.alloc (.cells rxZ 80)).setRow w0.heap.size (rxV x) = W at *
       have q3 := (bx5 h3.box).2.2.2.1)
    | (with_reducible refine wpList_putM enX_k rowX rfl _ _ rfl h3.row off hoR x0X rxZ rxZ_list rfl rfl rxZ_ones ?_
       intro w4 o4 k4 z4
       have b4 := (k4.block g h3.lt (Ne.symm h.ng)).trans h3.box
       have q4 := (bx5 b4).2.2.2.1
       have f4 := bx_thaw b4
       clear q3)
    | (with_reducible refine wpList_cutFromS elX rfl _ _ rfl .i64 1 1 rfl rfl rfl hlen hsl ?_
       have bx4 : (w4.setCell ⟨g, 3, none⟩ (.slice a' (m.fs.length - 1) (c - 1))).heap[w0.heap.size]? = some (.cells (rxV x) 80 (0, 0)) := (Below.heap_setCell _ _ _ _ (by have := h1.lt; show w0.heap.size ≠ g; omega)).trans ((k4.block _ (bx_lt bW) (by have := h1.sL _ h1.ss; omega)).trans bW)
       have br4 : (w4.setCell ⟨g, 3, none⟩ (.slice a' (m.fs.length - 1) (c - 1))).heap[w.heap.size]? = some (.cells rxZ 80 (0, 0)) := (Below.heap_setCell _ _ _ _ (by have := h.lt; show w.heap.size ≠ g; omega)).trans ((k4.block _ (bx_lt b3) (by have := h.sL _ h.ss; omega)).trans b3))
    | (with_reducible refine wpList_loadR rowX rfl _ rfl _ rfl bx4 rfl ?_)
    | (with_reducible refine wpList_storeR rowX rfl _ _ rfl _ _ rfl rfl br4 rfl rfl (rx_ones _) ?_))
  rw [HO.out] at o4 ha'
  obtain ⟨hF, hX, hK⟩ := ffPop_fin h3 h0 o4 k4 z4 ha'
  rw [← HO.out] at hF
  have kR : Ch (fun b => b = w.heap.size) (w4.setCell ⟨g, 3, none⟩ (.slice a' (m.fs.length - 1) (c - 1))) ((w4.setCell ⟨g, 3, none⟩ (.slice a' (m.fs.length - 1) (c - 1))).setRow w.heap.size (rxV x)) := Ch.setRow (S := fun b => b = w.heap.size) (Ch.refl _ _) (.inl rfl) _
  have hx : x ∈ m.fs := List.mem_of_getElem? h0
  refine bodyPost_ret (v := .tuple #[.agg (rxV x), .bool true]) (results_row1 rowX rfl _ _ _ rfl rfl (setRow_heap _ _ _ _ _ _ br4) rfl) rfl ⟨a', rfl, hF.ch kR (fun b hb e => ?_), hX.ch kR (fun q hq e => ?_), ?_⟩
  · have := h.sL b hb.1; omega
  · have := h.sL _ (h.sd x hx q hq); omega
  · exact (((Ch.of_below gg3).trans hK (fun b hb => .inl hb)).setRow (.inr (Nat.le_refl _)) _)

/-- A fifo that is none: nil, or one that New did not answer. -/
abbrev ffZ : Array Value := #[.pointer none, .int .i64 0, .slice none 0 0, .slice none 0 0, .bool false]
def NoF (w : World) (v : Value) : Prop := v = .pointer none ∨ ∃ g, v = .pointer (some ⟨g, 0, none⟩) ∧ w.heap[g]? = some (.cells ffZ 140 (0, 0))
theorem NoF.below (h : NoF w v) (k : Below w.heap.size w w1) : NoF w1 v := by
  rcases h with h | ⟨g, h1, h2⟩
  · exact .inl h
  · exact .inr ⟨g, h1, bx_below h2 k⟩

end
end Go.Proofs.YtajdbimdiodalaaGreat

namespace Go.Proofs.YtajdbimdiodalaaGreat
open Go.RowKit Go.Sort
set_option linter.unusedVariables false

set_option maxRecDepth 100000 in
set_option maxHeartbeats 2000000 in
theorem own_any (w : World) (F : Fr) (t : Int) (fa : Option Addr) (fc : Nat) (h : RL bv w fa F.data.length fc F.data) (hn : F.data.length ≤ 1000000) :
    Calls Tryz.prog 128 #[.agg (rxV ((F, (fa, fc)), t))] w fun e w' => ∃ da dc, e = .returned (.agg (rxV ((F, (da, dc)), t))) ∧ OL bv 5 w.heap.size w' da F.data.length dc F.data ∧ Below w.heap.size w w' := by
  obtain ⟨w0, hw0, hb, h0, hg⟩ : ∃ w0, Hid (w.alloc (.cells (rxV ((F, (fa, fc)), t)) 80) = w0) ∧ w0.heap[w.heap.size]? = some (.cells (rxV ((F, (fa, fc)), t)) 80 (0, 0)) ∧ RL bv w0 fa F.data.length fc F.data ∧ Below w.heap.size w w0 := ⟨_, rfl, heap_alloc_new w _, h.below (bnew0 w _), bnew0 w _⟩
  obtain ⟨r, hr⟩ : ∃ r, r = w0.heap.size := ⟨_, rfl⟩
  obtain ⟨w1, hw1, b1, r1, h1, g1, z1⟩ : ∃ w1, Hid (w0.alloc (.cells rxZ 80) = w1) ∧ w1.heap[w.heap.size]? = some (.cells (rxV ((F, (fa, fc)), t)) 80 (0, 0)) ∧ w1.heap[r]? = some (.cells rxZ 80 (0, 0)) ∧ RL bv w1 fa F.data.length fc F.data ∧ Below w.heap.size w w1 ∧ w.heap.size < r := ⟨_, rfl, bx_alloc _ hb, by rw [hr]; exact heap_alloc_new w0 _, h0.below (bnew0 w0 _), bnew hg _, by rw [hr]; exact bx_lt hb⟩
  have HR : Hid (w0.heap.size = r) := hr.symm
  have HN := hid hn
  obtain ⟨x0, x1, x2, x3, x4, x5⟩ := bx6 b1
  clear h h0 hb hg hr hn
  go_enter Tryz.func128, Tryz.ntmps128
  go_wp2_with (first
    | (rw [hw0.out])
    | (rw [hw1.out, HR.out])
    | (refine wpList_mk (f := bv) tY 0 rfl rfl _ _ rfl (n := F.data.length) _ _ .i64 .i64 rfl rfl rfl rfl (by have := HN.out; omega) (by omega) ?_; intro w2 o2 g2 z2
       have b2 := bx_below b1 g2
       have r2 := bx_below r1 g2
       have h2 := h1.below g2
       have gg2 := bstep g1 g2
       have ne2 : w1.heap.size ≠ w.heap.size := by have := bx_lt b1; omega
       have ne3 : w1.heap.size ≠ r := by have := bx_lt r1; omega
       have lt2 : w.heap.size ≤ w1.heap.size := by have := bx_lt b1; omega
       have lt3 : r ≤ w1.heap.size := Nat.le_of_lt (bx_lt r1)
       have ltr : r < w1.heap.size := bx_lt r1
       clear b1 r1 h1 g1 x0 x1 x2 x3 x4 x5 hw0 hw1 HR
       generalize w1.heap.size = d at *
       obtain ⟨x0, x1, x2, x3, x4, x5⟩ := bx6 b2)
    | (with_reducible refine wpList_cp (f := bv) (n := F.data.length) tY rfl _ _ rfl rfl rfl o2 h2 (fun _ => rfl) ?_; intro w3 o3 g3
       have b3 := (g3.block _ (Nat.lt_of_lt_of_le z1 lt3)).trans b2
       have r3 := (g3.block _ ltr).trans r2
       have gg3 := gg2.trans (g3.mono lt2)
       clear x0 x1 x2 x3 x4 x5 h2 g2 b2 r2 gg2
       obtain ⟨x0, x1, x2, x3, x4, x5⟩ := bx6 b3
       have f3 := bx_thaw b3
       have b4 : (w3.setCell ⟨w.heap.size, 4, none⟩ (.slice (some ⟨d, 0, none⟩) F.data.length F.data.length)).heap[w.heap.size]? = some (.cells (rxV ((F, (some ⟨d, 0, none⟩, F.data.length)), t)) 80 (0, 0)) := heap_setCell_same w3 w.heap.size 4 _ _ _ b3
       have r4 : (w3.setCell ⟨w.heap.size, 4, none⟩ (.slice (some ⟨d, 0, none⟩) F.data.length F.data.length)).heap[r]? = some (.cells rxZ 80 (0, 0)) := (Below.heap_setCell _ _ _ _ (Nat.ne_of_gt z1)).trans r3)
    | (with_reducible refine wpList_loadR rowX rfl _ rfl _ rfl b4 rfl ?_)
    | (with_reducible refine wpList_storeR rowX rfl _ _ rfl _ _ rfl rfl r4 rfl rfl (rx_ones _) ?_))
  have hS : ∀ k, some (⟨d, 0, none⟩ : Addr) = some ⟨k, 0, none⟩ → ((w3.setCell ⟨w.heap.size, 4, none⟩ (.slice (some ⟨d, 0, none⟩) F.data.length F.data.length)).setRow r (rxV ((F, (some ⟨d, 0, none⟩, F.data.length)), t))).heap[k]? = w3.heap[k]? := fun k hk => by
    cases hk
    rw [setRow_other _ _ _ _ ne3, Below.heap_setCell _ _ _ _ ne2]
  exact bodyPost_ret (v := .agg (rxV ((F, (some ⟨d, 0, none⟩, F.data.length)), t))) (results_row rowX rfl _ _ _ rfl (setRow_heap _ _ _ _ _ _ r4) rfl) rfl ⟨_, _, rfl, (o3.kept hS).mono lt2, below_setRow (gg3.setCell (Nat.le_refl _) _) (Nat.le_of_lt z1) _⟩

theorem put_none12 (a : Act) (v : Value) : a.put none v = a := rfl
theorem rxZ_cells : (Value.agg rxZ).cells.toList = enX x0X := rfl

section
variable {B : Nat} {w w1 : World} {g s : Nat} {m : Fm} {a : Option Addr} {c : Nat} {st : List Rx} {S : Nat → Prop}

/-- The frames' cells, read from the head of where they lie. -/
theorem ffSrc (h : FfO B w g s m a c st S) : 0 < m.fs.length → ∃ ad, a = some ad ∧ ∀ j v, (m.fs.flatMap enX)[j]? = some v → w.cell? (ad.add j) = some v := fun hn => by
  obtain ⟨b, off, rfl, hb, hc⟩ := h.rk.cell hn
  refine ⟨_, rfl, fun j u hu => ?_⟩
  obtain ⟨i', j', y, h1, h2, rfl⟩ := flat_back enX_k _ j u hu
  rw [Addr.add_lit]
  exact hc i' y j' u h1 h2

theorem ffThere (h : FfO B w g s m a c st S) (p : Nat) (hp : p < 2 * m.room * 6) : (w.cell? ⟨s, p, none⟩).isSome = true ∧ w.frozen? ⟨s, p, none⟩ = false := by
  rcases h.row.ex with ⟨h0, _⟩ | ⟨g', cur, h1, h2, h3, h4, h5, h6⟩
  · cases h0
  · cases h1
    refine ⟨?_, frozen_of_row w s p _ _ h3⟩
    rw [cell_of_row w s p _ _ _ h3, Array.getElem?_eq_getElem (by omega)]; rfl

theorem compact_fin {W2 : World} (h : FfO B w g s m a c st S) (hc : m.fs.length = c) (hl : m.fs.length < m.room) (k2 : Wr s w W2)
    (o2 : OK enX 6 80 B W2 (some ⟨s, 0, none⟩) (2 * m.room) (2 * m.room) (m.fs ++ List.replicate (2 * m.room - m.fs.length) x0X)) :
    FfO B (W2.setCell ⟨g, 3, none⟩ (.slice (some ⟨s, 0, none⟩) m.fs.length (2 * m.room))).drew g s m (some ⟨s, 0, none⟩) (2 * m.room) (m.fs ++ List.replicate (2 * m.room - m.fs.length) x0X) S ∧
    Ch (fun b => b = g ∨ b = s) w (W2.setCell ⟨g, 3, none⟩ (.slice (some ⟨s, 0, none⟩) m.fs.length (2 * m.room))).drew := by
  have b2 := (k2.block g h.lt (Ne.symm h.ng)).trans h.box
  have kc : Ch (fun b => b = g ∨ b = s) w (W2.setCell ⟨g, 3, none⟩ (.slice (some ⟨s, 0, none⟩) m.fs.length (2 * m.room))).drew :=
    (Ch.setCell (S := fun b => b = g ∨ b = s) ⟨k2.os, k2.tape, k2.output, k2.size, fun b hb hn => k2.block b hb (fun e => hn (.inr e))⟩ (p := ⟨g, 3, none⟩) (.inl (.inl rfl)) _).drew
  refine ⟨⟨?_, ?_, fun _ => ?_, Nat.le_refl _, by omega, fun i x hx => ?_, fun p hp => (h.dat p hp).ch kc (fun q hq e => ?_), h.hB, h.sg, h.ss, h.ng, h.sd, h.sB, h.nd, h.pw, h.r1, h.rm, h.le, fun k hk => Nat.lt_of_lt_of_le (h.sL k hk) kc.size⟩, kc⟩
  · show (W2.setCell ⟨g, 3, none⟩ _).heap[g]? = _
    rw [heap_setCell_same W2 g 3 _ _ _ b2]
    rfl
  · exact OK.kept (w := W2) o2 fun b hb => by cases hb; exact Below.heap_setCell _ _ _ _ h.ng
  · simp
  · rw [Nat.sub_self, Nat.zero_add, List.getElem?_append_left (List.getElem?_eq_some_iff.1 hx).1]; exact hx
  · rcases e with e | e
    · exact (h.nd p hp).1 q hq e
    · exact (h.nd p hp).2 q hq e

set_option maxRecDepth 100000 in
set_option maxHeartbeats 4000000 in
theorem compact_any (h : FfO B w g s m a c st S) (hc : m.fs.length = c) (hl : m.fs.length < m.room) :
    Calls Tryz.prog 127 #[.pointer (some ⟨g, 0, none⟩)] w fun e w' => e = .returned (.tuple #[]) ∧ FfO B w' g s m (some ⟨s, 0, none⟩) (2 * m.room) (m.fs ++ List.replicate (2 * m.room - c) x0X) S ∧ Ch (fun b => b = g ∨ b = s) w w' := by
  obtain ⟨n, hn⟩ : ∃ n, n = m.fs.length := ⟨_, rfl⟩
  obtain ⟨R, hR⟩ : ∃ R, R = 2 * m.room := ⟨_, rfl⟩
  obtain ⟨cs, hcs⟩ : ∃ cs, cs = m.fs.flatMap enX := ⟨_, rfl⟩
  have q2 : w.cell? ⟨g, 2, none⟩ = some (.slice (some ⟨s, 0, none⟩) R R) := by rw [hR]; exact (bx5 h.box).2.2.1
  have q3 : w.cell? ⟨g, 3, none⟩ = some (.slice a n c) := by rw [hn]; exact (bx5 h.box).2.2.2.1
  have hz := h.thaw
  have hcl : Hid (cs.length = n * 6) := by show _ = _; rw [hcs, flat_len enX_k, hn]
  have hsrc : Hid (0 < n → ∃ ad, a = some ad ∧ ∀ j v, cs[j]? = some v → w.drew.cell? (ad.add j) = some v) := fun hp => by
    obtain ⟨ad, e1, e2⟩ := ffSrc h (by omega)
    exact ⟨ad, e1, fun j v hv => e2 j v (by rw [← hcs]; exact hv)⟩
  have hth : Hid (∀ j, j < cs.length → (w.drew.cell? ⟨s, 0 + j, none⟩).isSome = true ∧ w.drew.frozen? ⟨s, 0 + j, none⟩ = false) := fun j hj => by
    have := ffThere h (0 + j) (by have := hcl.out; have := h.rm; omega)
    exact this
  have hone : Hid (∀ v ∈ cs, v.oneCell' = true) := by rw [hcs]; exact flat_one enX_k _
  have hnR : n < R := by omega
  have hn0 : n ≤ R := by omega
  have hRm : R ≤ 512 := by have := h.rm; omega
  obtain ⟨W1, hW1⟩ : ∃ W1, W1 = w.drew.setCells s 0 cs := ⟨_, rfl⟩
  have HW1 := hid hW1
  have k1 : Wr s w W1 := by rw [hW1]; exact (Wr.refl s w).drew.trans (wr_setCells s _ _ _)
  have o1 : OK enX 6 80 B W1 (some ⟨s, 0, none⟩) R R (m.fs ++ st.drop n) := by
    have hd : OK enX 6 80 B w.drew (some ⟨s, 0, none⟩) (2 * m.room) (2 * m.room) st := h.row.kept fun _ _ => rfl
    have := hd.puts enX_k 0 m.fs (by rw [Nat.zero_add, ← hn, ← hR]; exact hn0)
    rw [Nat.zero_mul, List.take_zero, List.nil_append, Nat.zero_add, ← hcs, ← hW1, ← hR, ← hn] at this
    exact this
  have b1 := (k1.block g h.lt (Ne.symm h.ng)).trans h.box
  have p2 : W1.cell? ⟨g, 2, none⟩ = some (.slice (some ⟨s, 0, none⟩) R R) := by rw [hR]; exact (bx5 b1).2.2.1
  have hsl : Go.sliced (some ⟨s, 0, none⟩) n R R 6 = .slice (some ⟨s, n * 6, none⟩) (R - n) (R - n) := by
    show Value.slice (if R = n then _ else _) _ _ = _
    rw [if_neg (by omega)]; simp [Addr.add_lit]
  have t1 : Hid (∀ j, j < (R - n) * 6 → (W1.cell? ⟨s, n * 6 + j, none⟩).isSome = true ∧ W1.frozen? ⟨s, n * 6 + j, none⟩ = false) := fun j hj => by
    rcases o1.ex with ⟨h0, _⟩ | ⟨g', cur, h1, h2, h3, h4, h5, h6⟩
    · cases h0
    · cases h1
      refine ⟨?_, frozen_of_row W1 s _ _ _ h3⟩
      rw [cell_of_row W1 s _ _ _ _ h3, Array.getElem?_eq_getElem (by omega)]; rfl
  obtain ⟨W2, hW2⟩ : ∃ W2, W2 = W1.setCells s (n * 6) ((List.replicate (R - n) x0X).flatMap enX) := ⟨_, rfl⟩
  have HW2 := hid hW2
  have k2 : Wr s w W2 := by rw [hW2]; exact k1.trans (wr_setCells s _ _ _)
  have o2 : OK enX 6 80 B W2 (some ⟨s, 0, none⟩) R R (m.fs ++ List.replicate (R - n) x0X) := by
    have := o1.puts enX_k n (List.replicate (R - n) x0X) (by rw [List.length_replicate]; omega)
    rw [← hW2, List.length_replicate, List.take_left' hn.symm, List.drop_eq_nil_of_le (by rw [o1.len]; omega), List.append_nil] at this
    exact this
  have b2 := (k2.block g h.lt (Ne.symm h.ng)).trans h.box
  have p3 : W2.cell? ⟨g, 2, none⟩ = some (.slice (some ⟨s, 0, none⟩) R R) := by rw [hR]; exact (bx5 b2).2.2.1
  have p4 : W2.cell? ⟨g, 3, none⟩ = some (.slice a n c) := by rw [hn]; exact (bx5 b2).2.2.2.1
  have f3 := bx_thaw b2
  have hR0 : ¬ R = 0 := by omega
  have FIN : Hid (FfO B (W2.setCell ⟨g, 3, none⟩ (.slice (some ⟨s, 0, none⟩) n R)).drew g s m (some ⟨s, 0, none⟩) (2 * m.room) (m.fs ++ List.replicate (2 * m.room - c) x0X) S ∧
      Ch (fun b => b = g ∨ b = s) w (W2.setCell ⟨g, 3, none⟩ (.slice (some ⟨s, 0, none⟩) n R)).drew) := by
    have := compact_fin h hc hl k2 (by rw [← hn, ← hR]; exact o2)
    rw [← hR, ← hn] at this
    rw [← hR, ← hc, ← hn]; exact this
  have HC := hid hc; have HL := hid hl; have HNN := hid hn; have HRR := hid hR
  clear hc hl hn hR hcs hW1 hW2 k1 o1 b1 k2 o2 b2
  go_enter Tryz.func127, Tryz.ntmps127
  go_wp2_with fail
  go_region_law (refine step_copyK elX rfl _ _ rfl s 0 R R rfl rfl cs hn0 hcl.out hsrc.out (fun j hj => (hth.out j hj).1) (fun j hj => (hth.out j hj).2) hone.out ?_; rw [← HW1.out])
  all_goals
    go_wp2_with (first
      | (with_reducible refine wpList_cutFromS elX rfl _ _ rfl .i64 n n rfl rfl rfl hn0 hsl ?_)
      | (with_reducible refine wpList_clearK enX_k elX x0X rxZ_cells rfl _ rfl s (n * 6) rfl (fun j hj => (t1.out j hj).1) (fun j hj => (t1.out j hj).2) ?_; rw [← HW2.out]))
    rw [put_none12]
    go_region
  all_goals exact bodyPost_end (v := .tuple #[]) (by simp [results, Tryz.results127, go_sem]) rfl ⟨rfl, FIN.out⟩
end
end Go.Proofs.YtajdbimdiodalaaGreat

namespace Go.Proofs.YtajdbimdiodalaaGreat
open Go.RowKit Go.Sort
set_option linter.unusedVariables false

section
variable {B : Nat} {w w1 : World} {g s : Nat} {m : Fm} {a : Option Addr} {c : Nat} {st : List Rx} {S : Nat → Prop}

set_option maxRecDepth 100000 in
set_option maxHeartbeats 2000000 in
theorem ffPush_full (h : FfO B w g s m a c st S) (cs : Array Value) (hl : m.fs.length = m.room) :
    Calls Tryz.prog 91 #[.pointer (some ⟨g, 0, none⟩), .agg cs] w fun e w' => e = .returned (.int .i64 5) ∧ FfO B w' g s { m with ov := true } a c st S ∧ Ch S w w' := by
  obtain ⟨w0, hw0, h0, hg⟩ : ∃ w0, Hid (w.alloc (.cells cs 80) = w0) ∧ FfO B w0 g s m a c st S ∧ Below w.heap.size w w0 := ⟨_, rfl, h.alloc _, bnew0 w _⟩
  have hm := ffMade_any h0
  have q1 := (bx5 h0.box).2.1
  have q3 := (bx5 h0.box).2.2.2.1
  rw [← hl] at q1
  have q4 := (bx5 h0.box).2.2.2.2
  have hz := h0.thaw
  have hk := h0.flag true
  have kc : Ch S w (w0.setCell ⟨g, 4, none⟩ (.bool true)) := (Ch.of_below hg).setCell (p := ⟨g, 4, none⟩) (.inl h.sg) _
  have hk' := h0.drewN 1
  clear h hl
  go_enter Tryz.func91, Tryz.ntmps91
  go_wp2_with (go_at_call 77; rw [hw0.out]; (refine hm.mono ?_); rintro e w1 ⟨rfl, rfl⟩)
  go_quiet (fail)
  rename_i nq
  have h2 := h0.drewN nq
  have g2 := below_drewN hg nq
  clear q1 q3 q4 hz hk kc hm hw0 h0 hg hk'
  generalize w0.drewN nq = w2 at *
  have q4 := (bx5 h2.box).2.2.2.2
  have hz := h2.thaw
  go_wp2
  go_ret
  exact ⟨rfl, h2.flag true, (Ch.of_below g2).setCell (p := ⟨g, 4, none⟩) (.inl h2.sg) _⟩

/-- The fifo with one more. -/
def puF (F : Fr) (da : Option Addr) (dc : Nat) (t : Int) (m : Fm) : Fm := { m with fs := m.fs ++ [((F, (da, dc)), t)] }
/-- What Push answers, and leaves. -/
def PuR (B : Nat) (w : World) (g s : Nat) (m : Fm) (F : Fr) (t : Int) (S : Nat → Prop) (e : Ending) (w' : World) : Prop :=
  ∃ a' c' st' S' da dc, e = .returned (.int .i64 0) ∧ FfO B w' g s (puF F da dc t m) a' c' st' S' ∧ Ch S w w' ∧ (∀ b, S' b → S b ∨ w.heap.size ≤ b)

theorem push_fin {w3 w5 : World} {F : Fr} {t : Int} {da : Option Addr} {dc : Nat} {o : Obj} (h3 : FfO B w3 g s m a c st S) (hk3 : Ch S w w3) (hsl : ∀ k, S k → k < w.heap.size) (hl : m.fs.length < m.room) (hlt : m.fs.length < c)
    (g5 : Below w3.heap.size w3 w5) (o5 : OL bv 5 w3.heap.size w5 da F.data.length dc F.data) :
    FfO B (((w5.alloc o).setCells s ((2 * m.room - c) * 6 + m.fs.length * 6) (enX ((F, (da, dc)), t))).setCell ⟨g, 3, none⟩ (.slice a (m.fs.length + 1) c)) g s (puF F da dc t m) a c (st.set (2 * m.room - c + m.fs.length) ((F, (da, dc)), t)) (fun b => S b ∨ (w.heap.size ≤ b ∧ b < w5.heap.size)) ∧
    Ch S w (((w5.alloc o).setCells s ((2 * m.room - c) * 6 + m.fs.length * 6) (enX ((F, (da, dc)), t))).setCell ⟨g, 3, none⟩ (.slice a (m.fs.length + 1) c)) := by
  have z5 := g5.size
  have za : (w5.alloc o).heap.size = w5.heap.size + 1 := by simp
  have hbB := h3.hB
  have hgl := h3.lt
  have hc2 := h3.cle
  have hle := h3.le
  have h5 := (h3.below g5).alloc o
  have ho := h5.row.put enX_k (i := 2 * m.room - c + m.fs.length) (by omega) ((F, (da, dc)), t)
  rw [Nat.add_mul] at ho
  obtain ⟨W, hW⟩ : ∃ W, W = (w5.alloc o).setCells s ((2 * m.room - c) * 6 + m.fs.length * 6) (enX ((F, (da, dc)), t)) := ⟨_, rfl⟩
  have kW : Wr s (w5.alloc o) W := by rw [hW]; exact wr_setCells s _ _ _
  have zW : W.heap.size = w5.heap.size + 1 := by rw [hW, sz_setCells, za]
  rw [← hW] at ho ⊢
  have bW := (kW.block g (by rw [za]; omega) (Ne.symm h3.ng)).trans h5.box
  have kV : Ch (fun b => b = g ∨ b = s) (w5.alloc o) (W.setCell ⟨g, 3, none⟩ (.slice a (m.fs.length + 1) c)) :=
    Ch.setCell (S := fun b => b = g ∨ b = s) ⟨kW.os, kW.tape, kW.output, kW.size, fun b hb hn => kW.block b hb (fun e => hn (.inr e))⟩ (p := ⟨g, 3, none⟩) (.inl (.inl rfl)) _
  have hdl : ∀ q, da = some q → q.block < w5.heap.size ∧ w3.heap.size ≤ q.block := fun q hq => o5.ltB hq
  have z3 := hk3.size
  have hch : Ch S w (W.setCell ⟨g, 3, none⟩ (.slice a (m.fs.length + 1) c)) :=
    ((hk3.call g5).alloc o).trans kV (fun b hb => .inl (by rcases hb with e | e; rw [e]; exact h3.sg; rw [e]; exact h3.ss))
  have hlen : (puF F da dc t m).fs.length = m.fs.length + 1 := by simp [puF]
  have hstl := h3.row.len
  have hnew : ∀ q, da = some q → q.block ≠ g ∧ q.block ≠ s := fun q hq => by
    have := hdl q hq
    have h1 := h3.sL _ h3.sg
    have h2 := h3.sL _ h3.ss
    exact ⟨by omega, by omega⟩
  have hold : ∀ p ∈ m.fs, ∀ q, p.1.2.1 = some q → q.block < w3.heap.size := fun p hp q hq => h3.sL _ (h3.sd p hp q hq)
  refine ⟨⟨?_, ?_, h3.ad, hc2, by rw [hlen]; omega, fun i x hx => ?_, fun p hp => ?_, hbB, .inl h3.sg, .inl h3.ss, h3.ng, fun p hp q hq => ?_, fun k hk => ?_, fun p hp => ?_, ?_, h3.r1, h3.rm, by rw [hlen]; exact hl, fun k hk => ?_⟩, hch⟩
  · rw [heap_setCell_same W g 3 _ _ _ bW]
    show some (Obj.cells #[_, _, _, Value.slice a (m.fs.length + 1) c, _] _ _) = some (Obj.cells #[_, _, _, Value.slice a (puF F da dc t m).fs.length c, _] _ _)
    rw [hlen]
    rfl
  · exact ho.kept fun b hb => Below.heap_setCell _ _ _ _ (by cases hb; exact h3.ng)
  · show (st.set _ _)[2 * m.room - c + i]? = _
    by_cases hi : i < m.fs.length
    · have : m.fs[i]? = some x := by
        have h0 : (m.fs ++ [((F, (da, dc)), t)])[i]? = some x := hx
        rwa [List.getElem?_append_left hi] at h0
      rw [List.getElem?_set_ne (by omega)]
      exact h3.fr i x this
    · have h0 : (m.fs ++ [((F, (da, dc)), t)])[i]? = some x := hx
      have hi2 : i = m.fs.length := by
        have := (List.getElem?_eq_some_iff.1 h0).1
        simp at this; omega
      subst hi2
      simp at h0
      subst h0
      rw [List.getElem?_set_self (by omega)]
  · rcases List.mem_append.1 hp with hp | hp
    · exact (h5.dat p hp).ch kV (fun q hq e => by
        rcases e with e | e
        · exact (h3.nd p hp).1 q hq e
        · exact (h3.nd p hp).2 q hq e)
    · simp at hp
      subst hp
      exact ((o5.alloc o).mono (by omega)).ch kV (fun q hq e => by
        rcases e with e | e
        · exact (hnew q hq).1 e
        · exact (hnew q hq).2 e)
  · rcases List.mem_append.1 hp with hp | hp
    · exact .inl (h3.sd p hp q hq)
    · simp at hp
      subst hp
      have := hdl q hq
      right; omega
  · rcases hk with hk | hk
    · exact h3.sB k hk
    · have := hsl _ h3.sg; omega
  · rcases List.mem_append.1 hp with hp | hp
    · exact h3.nd p hp
    · simp at hp
      subst hp
      exact ⟨fun q hq => (hnew q hq).1, fun q hq => (hnew q hq).2⟩
  · refine List.pairwise_append.2 ⟨h3.pw, List.pairwise_singleton _ _, fun p hp q hq => ?_⟩
    simp at hq
    subst hq
    intro x y hx hy e
    have h1 := hold p hp x hx
    have h2 := hdl y hy
    omega
  · rw [sz_set, zW]
    rcases hk with hk | hk
    · have := hsl k hk; omega
    · omega

/-- A fifo with room for one more ahead. -/
def RmF (B : Nat) (w0 : World) (g s : Nat) (m : Fm) (S : Nat → Prop) (k : Nat) (cs : Array Value) (w' : World) : Prop :=
  ∃ a' c' st', FfO B w' g s m a' c' st' S ∧ m.fs.length < c' ∧ Ch S w0 w' ∧ w'.heap[k]? = some (.cells cs 80 (0, 0))

set_option maxRecDepth 100000 in
set_option maxHeartbeats 8000000 in
theorem ffPush_any (h : FfO B w g s m a c st S) (F : Fr) (t : Int) (fa : Option Addr) (fc : Nat) (hl : m.fs.length < m.room) (hR : ∀ w', Ch S w w' → RL bv w' fa F.data.length fc F.data) (hlen : F.data.length ≤ 1000000) :
    Calls Tryz.prog 91 #[.pointer (some ⟨g, 0, none⟩), .agg (rxV ((F, (fa, fc)), t))] w (PuR B w g s m F t S) := by
  obtain ⟨w0, hw0, h0, hb, hg⟩ : ∃ w0, Hid (w.alloc (.cells (rxV ((F, (fa, fc)), t)) 80) = w0) ∧ FfO B w0 g s m a c st S ∧ w0.heap[w.heap.size]? = some (.cells (rxV ((F, (fa, fc)), t)) 80 (0, 0)) ∧ Below w.heap.size w w0 := ⟨_, rfl, h.alloc _, heap_alloc_new w _, bnew0 w _⟩
  have hm := ffMade_any h0
  have q1 := (bx5 h0.box).2.1
  have q3 := (bx5 h0.box).2.2.2.1
  have hne : ((m.fs.length : Int) == (m.room : Int)) = false := by rw [beq_eq_false_iff_ne]; omega
  have hgl := h.lt
  have hsl := h.sL
  have HL := hid hl
  clear h hl
  go_enter Tryz.func91, Tryz.ntmps91
  go_wp2_with (go_at_call 77; rw [hw0.out]; (refine hm.mono ?_); rintro e w1 ⟨rfl, rfl⟩)
  go_quiet (fail)
  rename_i nq
  have h2 := h0.drewN nq
  have g2 := below_drewN hg nq
  have b2 := bx_below hb (below_drewN (Below.refl w0.heap.size w0) nq)
  clear q1 q3 hm hw0 h0 hg hb
  generalize w0.drewN nq = w2 at *
  have q3 := (bx5 h2.box).2.2.2.1
  obtain ⟨eq, heq⟩ : ∃ eq : Bool, ((m.fs.length : Int) == (c : Int)) = eq := ⟨_, rfl⟩
  go_upto_if 33 with fail
  go_quiet (fail)
  have h3 := h2.drewN nq
  have g3 := below_drewN g2 nq
  have b3 := bx_below b2 (below_drewN (Below.refl w2.heap.size w2) nq)
  have HEQ := hid heq
  clear q3 h2 g2 b2 heq
  generalize w2.drewN nq = w3 at *
  go_upto_if 33 with fail
  go_cut [4] (fun v wx => v = .int .i64 0 ∧ RmF B w g s m S w.heap.size (rxV ((F, (fa, fc)), t)) wx)
  case first =>
    have HEQ2 := HEQ.out
    cases eq with
    | true =>
      have hc : m.fs.length = c := by have := eq_of_beq HEQ2; omega
      have hcm := compact_any h3 hc HL.out
      clear HEQ2 HEQ
      go_wp2_with (go_at_call 127; (refine hcm.mono ?_); rintro e w4 ⟨rfl, h4, k4⟩)
      go_meet
      refine ⟨rfl, _, _, _, h4, by have := h3.r1; have := HL.out; omega, (Ch.of_below g3).trans k4 (fun b hb => .inl (by rcases hb with e | e; rw [e]; exact h3.sg; rw [e]; exact h3.ss)), k4.bx b3 (fun e => ?_)⟩
      rcases e with e | e
      · omega
      · have := hsl _ h3.ss; omega
    | false =>
      have hc : m.fs.length < c := by
        have h1 := h3.nle
        have h2 : ¬ ((m.fs.length : Int) = (c : Int)) := by intro e; rw [e] at HEQ2; simp at HEQ2
        omega
      clear HEQ2 HEQ
      go_wp2_with fail
      go_meet
      exact ⟨rfl, _, _, _, h3, hc, Ch.of_below g3, b3⟩
  case rest =>
  obtain ⟨rfl, a', c', st', h5, hlt, k5, b5⟩ := hcut
  have had := h5.ad (by omega)
  clear h3 g3 b3 HEQ hne
  obtain ⟨off, hoff⟩ : ∃ off, off = 2 * m.room - c' := ⟨_, rfl⟩
  obtain ⟨n, hn⟩ : ∃ n, n = m.fs.length := ⟨_, rfl⟩
  rw [← hoff] at had
  subst had
  have HO := hid hoff; have HN := hid hn
  have q3 : wc.cell? ⟨g, 3, none⟩ = some (.slice (some ⟨s, off * 6, none⟩) n c') := by rw [hn]; exact (bx5 h5.box).2.2.2.1
  clear hoff hn
  have hR3 := (hR _ k5).drew
  have hd3 : Below wc.heap.size wc wc.drew := (Below.refl _ _).drew
  have HS : Below wc.heap.size wc wc.drew := hd3
  have hq3 : ∀ w', Below wc.heap.size wc w' → w'.cell? ⟨g, 3, none⟩ = some (.slice (some ⟨s, off * 6, none⟩) n c') := fun w' hw => (hw.cell (p := ⟨g, 3, none⟩) h5.lt).trans q3
  clear q3 hR
  go_upto_region 8 with fail
  refine Rest.begin (S := fun w' => Below wc.heap.size wc w') (X := [6, 7, 8]) (by kernel_rfl) ?_
  change Rest _ _ _ _ _ _ _ _ _ wc.drew
  refine Rest.take (i := 0) (v := .pointer (some ⟨g, 0, none⟩)) rfl (by kernel_rfl) (by kernel_rfl) (by kernel_rfl) (by kernel_rfl) (fun _ _ _ h => h) (.inl HS) (Or.inl ⟨by simp [Region.wanted], ?_⟩) ?_
  · intro w; go_simp
  refine Rest.take (i := 1) (v := .pointer (some ⟨g, 0, none⟩)) rfl (by kernel_rfl) (by kernel_rfl) (by kernel_rfl) (by kernel_rfl) (fun _ _ _ h => h) (.inl HS) (Or.inl ⟨by simp [Region.wanted], ?_⟩) ?_
  · intro w; go_simp
  refine Rest.take (i := 2) (v := .pointer (some ⟨g, 0, none⟩)) rfl (by kernel_rfl) (by kernel_rfl) (by kernel_rfl) (by kernel_rfl) (fun _ _ _ h => h) (.inl HS) (Or.inl ⟨by simp [Region.wanted], ?_⟩) ?_
  · intro w; go_simp
  refine Rest.take (i := 3) (v := .pointer (some ⟨g, 3, none⟩)) rfl (by kernel_rfl) (by kernel_rfl) (by kernel_rfl) (by kernel_rfl) (fun _ _ _ h => h) (.inl HS) (Or.inl ⟨by simp [Region.wanted], ?_⟩) ?_
  · intro w; go_simp
  refine Rest.takeS (i := 4) (v := .slice (some ⟨s, off * 6, none⟩) n c') rfl (by kernel_rfl) (by kernel_rfl) (by kernel_rfl) (by kernel_rfl) (fun _ _ _ h => h) HS (.inl ⟨by simp [Region.wanted], ?_⟩) ?_
  · intro w hw; have q3 := hq3 w hw; go_simp
  refine Rest.takeS (i := 5) (v := .agg (rxV ((F, (fa, fc)), t))) rfl (by kernel_rfl) (by kernel_rfl) (by kernel_rfl) (by kernel_rfl) (fun _ _ _ h => h) HS (yields_loadR rowX (by simp [Region.wanted]) _ rfl w.heap.size (by simp [Act.eval, Act.put]) _ rfl (fun w' hw => ⟨_, _, bx_below b5 hw⟩)) ?_
  refine Rest.one (i := 6) (by kernel_rfl) rfl (fun K hK => ?_)
  refine draw_callF 128 (by kernel_rfl) (by simp [Region.wanted]) _ _ _ rfl (by simp [Act.eval]) #[.agg (rxV ((F, (fa, fc)), t))] (by simp [Act.eval, Act.put]) _ (own_any _ _ _ _ _ hR3 hlen) ?_
  rintro e w5 ⟨da, dc, rfl, o5, g5⟩
  refine ⟨_, rfl, ?_⟩
  have g35 : Below wc.heap.size wc w5 := hd3.trans g5
  have z5 := g35.size
  refine hK _ _ ⟨.inl g35, ?_⟩; clear hK K
  have cX : ∀ (i : Nat) (v : Value), (enX ((F, (da, dc)), t))[i]? = some v → (w5.alloc (.cells (rxV ((F, (da, dc)), t)) 80)).cell? ((⟨w5.heap.size, 0, none⟩ : Addr).add i) = some v := fun i v hv => by
    rw [Addr.add_lit, Nat.zero_add, cell_of_row _ _ i _ _ _ (heap_alloc_new w5 _)]
    simpa [enX] using hv
  have h6 := (h5.below g35).alloc (.cells (rxV ((F, (da, dc)), t)) 80)
  have hth : ∀ p, p < 2 * m.room * 6 → ((w5.alloc (.cells (rxV ((F, (da, dc)), t)) 80)).cell? ⟨s, p, none⟩).isSome = true ∧ (w5.alloc (.cells (rxV ((F, (da, dc)), t)) 80)).frozen? ⟨s, p, none⟩ = false := fun p hp => ffThere h6 p hp
  refine Rest.one (i := 7) (by kernel_rfl) rfl (fun K hK => ?_)
  rw [if_pos (by simp [Region.wanted])]
  go_simp
  refine hK _ _ ⟨.inl (g35.alloc z5 _), ?_⟩; clear hK K
  obtain ⟨i0, hi0, hz0, hz1, hz2⟩ := info_parts elX.info
  refine Rest.one (i := 8) (by kernel_rfl) rfl (fun K hK => ?_)
  refine step_append_room rfl (.tmp 40) (.tmp 43) 46 rfl 80 i0 6 elX.und hi0 hz1 s (off * 6) n c' rfl ⟨w5.heap.size, 0, none⟩ 1 1 (enX ((F, (da, dc)), t)) rfl rfl cX (enX_k.one _) (by have := HN.out; omega) (fun j hj => by have := hj; have := HO.out; have := HN.out; have := h5.cle; exact hth _ (by have : j < 6 := hj; omega)) ?_
  refine hK _ _ ⟨.inr (thru_of (by kernel_rfl)), Rest.of_any _ _ _ _ (thru_of (by kernel_rfl)) ?_⟩; clear hK K
  have hfin := push_fin (t := t) (o := .cells (rxV ((F, (da, dc)), t)) 80) h5 k5 hsl HL.out hlt g35 o5
  have bW : ((w5.alloc (.cells (rxV ((F, (da, dc)), t)) 80)).setCells s (off * 6 + n * 6) (enX ((F, (da, dc)), t))).heap[g]? = some (.cells (ffV g s m (some ⟨s, off * 6, none⟩) c') 140 (0, 0)) := ((wr_setCells s _ _ _).block g h6.lt (Ne.symm h6.ng)).trans h6.box
  rw [← HO.out, ← HN.out] at hfin
  have zz : w.heap.size ≤ w5.heap.size := by have := k5.size; omega
  clear hth cX h6 h5 HS hq3 hR3 hd3 o5 g5 g35 z5
  generalize (w5.alloc (.cells (rxV ((F, (da, dc)), t)) 80)).setCells s (off * 6 + n * 6) (enX ((F, (da, dc)), t)) = W at *
  have hz7 := bx_thaw bW
  have q37 : W.cell? ⟨g, 3, none⟩ = some (.slice (some ⟨s, off * 6, none⟩) n c') := by rw [HN.out]; exact (bx5 bW).2.2.2.1
  clear bW
  refine wpAny_take (i := 9) (v := .pointer (some ⟨g, 0, none⟩)) rfl (by kernel_rfl) (by kernel_rfl) (by kernel_rfl) (fun _ _ _ h => h) (Or.inl ⟨by simp [Region.wanted], ?_⟩) ?_
  · intro w; go_simp
  refine wpAny_take (i := 10) (v := .pointer (some ⟨g, 3, none⟩)) rfl (by kernel_rfl) (by kernel_rfl) (by kernel_rfl) (fun _ _ _ h => h) (Or.inl ⟨by simp [Region.wanted], ?_⟩) ?_
  · intro w; go_simp
  refine wpAny_ready (rs := [11]) (by kernel_rfl) (by simp) ?_
  refine AllReady.cons rfl (fun K hK => ?_) AllReady.nil
  rw [if_pos (by simp [Region.wanted])]
  go_simp
  refine hK _ _ ?_; clear hK K
  refine wpAny_done (by kernel_rfl) ?_ _
  go_wp2
  go_ret
  exact ⟨_, _, _, _, _, _, rfl, hfin.1, hfin.2, fun b hb => hb.imp id fun x => x.1⟩
end
end Go.Proofs.YtajdbimdiodalaaGreat

namespace Go.Proofs.YtajdbimdiodalaaGreat
open Go.RowKit Go.Sort
set_option linter.unusedVariables false
set_option linter.unusedSectionVars false

/-- A frame that waits, without where it lies. -/
def sQ (p : Wt) : Qw := (p.1.1, p.2)
def qM (m : Ml) : Dq := ⟨m.ws.map sQ, m.wire, m.ab, m.puts, m.room⟩
def sX (x : Rx) : Fr × Int := (x.1.1, x.2)

theorem rm_map (n : Nat) (ws : List Wt) : (rmW n ws).map sQ = rmQ n (ws.map sQ) := by
  unfold rmW rmQ
  rw [List.eraseP_map]; rfl
theorem mi_map : ∀ (l : List Wt) (p : Wt), sQ (miW l p) = miQ (l.map sQ) (sQ p)
  | [], p => rfl
  | x :: l, p => by
    rw [List.map_cons, miW, miQ]
    by_cases h : kyW x < kyW p
    · rw [if_pos h, if_pos (show kyQ (sQ x) < kyQ (sQ p) from h)]; exact mi_map l x
    · rw [if_neg h, if_neg (show ¬ kyQ (sQ x) < kyQ (sQ p) from h)]; exact mi_map l p
theorem be_map (m : Ml) : beQ (qM m) = (beM m).map sQ := by
  unfold beQ beM qM
  cases hw : m.ws with
  | nil => rfl
  | cons p l =>
    have e : beQ ⟨(p :: l).map sQ, m.wire, m.ab, m.puts, m.room⟩ = if m.wire = 0 then some (miQ (l.map sQ) (sQ p)) else ((p :: l).map sQ).find? (fun x => decide (x.2 = m.wire)) := rfl
    change beQ ⟨(p :: l).map sQ, m.wire, m.ab, m.puts, m.room⟩ = _
    rw [e]
    dsimp only
    split
    · rw [Option.map_some, mi_map]
    · rw [List.find?_map]; rfl
theorem lo_map (m : Ml) : qM (loM m) = loQ (qM m) := by
  unfold loM loQ
  cases h : m.ab
  · rw [if_neg (by simp), if_neg (by simp [qM, h])]; rfl
  · rw [if_pos rfl, if_pos (by simp [qM, h])]
    show Dq.mk ((rmW m.wire m.ws).map sQ) _ _ _ _ = _
    rw [rm_map]; rfl
theorem se_map (m : Ml) : qM (seM m) = seQ (qM m) := by
  unfold seM seQ
  by_cases h : m.wire = 0
  · rw [if_pos h, if_pos (by exact h)]
  · rw [if_neg h, if_neg (by exact h)]
    show Dq.mk ((rmW m.wire m.ws).map sQ) _ _ _ _ = _
    rw [rm_map]; rfl
theorem ha_map (n : Int) (m : Ml) : hasW n m.ws = (qM m).ws.any (fun p => decide ((p.2 : Int) = n)) := by
  rw [Bool.eq_iff_iff]
  constructor
  · intro h
    obtain ⟨p, hp, hn⟩ := hasW_yes h
    exact List.any_eq_true.2 ⟨sQ p, List.mem_map_of_mem hp, decide_eq_true hn⟩
  · intro h
    obtain ⟨q, hq, hn⟩ := List.any_eq_true.1 h
    obtain ⟨p, hp, rfl⟩ := List.mem_map.1 hq
    unfold hasW
    rcases fiW_or n m.ws with ⟨_, h2⟩ | ⟨k, p2, _, _, h3, _⟩
    · exact absurd (of_decide_eq_true hn) (h2 p hp)
    · rw [h3]; simp

/-- What is said of a mail in a driver. -/
theorem DvJ.mli {d : Dv} (h : DvJ d) {m : Ml} (hq : d.q = qM m) : MlI m := by
  have hw : d.q.wire = m.wire := by rw [hq]; rfl
  have ha : d.q.ab = m.ab := by rw [hq]; rfl
  have hs : d.q.ws = m.ws.map sQ := by rw [hq]; rfl
  have hp : d.q.puts = m.puts := by rw [hq]; rfl
  refine ⟨?_, fun e => ?_, fun p hm => ?_, ?_⟩
  · cases hc : d.c.has
    · left; rw [← hw]; exact (h.h0 hc).1
    · right
      obtain ⟨_, h2⟩ := h.hw hc
      rw [hs] at h2
      obtain ⟨p, h3, h4⟩ := List.mem_map.1 h2
      exact ⟨p, h3, by rw [← hw]; exact congrArg Prod.snd h4⟩
  · cases hc : d.c.has
    · have := (h.h0 hc).2; rw [ha, e] at this; cases this
    · have := (h.hw hc).1; omega
  · have := h.no (sQ p) (by rw [hs]; exact List.mem_map_of_mem hm)
    rw [hp] at this
    exact ⟨this.1, this.2.1⟩
  · have := h.up
    rw [hs, List.pairwise_map] at this
    exact this

/-- Where a driver lies. -/
structure Dm where
  s : Sl
  gm : Nat
  m : Ml
  ma : Option Addr
  mc : Nat
  Sm : Nat → Prop
  fl : List Fi
  fa : Option Addr
  fc : Nat
  gf : Nat
  gs : Nat
  fm : Fm
  ra : Option Addr
  rc : Nat
  st : List Rx
  Sf : Nat → Prop

/-- The cells of a driver. -/
def dvV (g : Nat) (c : Ct) (k : Dm) (now : Int) : Array Value := #[.pointer (some ⟨g, 0, none⟩), .int .u8 (c.ph : Int), .int .i64 (c.n : Int), .int .i64 c.cf.t, .int .i64 c.cf.r, .bool c.cf.o, .int .i64 c.cf.n, .int .i64 c.cf.m, .bool c.has, .int .u32 (c.give.id : Int), .bool c.give.ext, .bool c.give.rem, .int .u8 (c.give.dlc : Int), .slice k.s.da c.give.data.length k.s.dc, .bool c.sends, .bool c.sender, .slice k.s.wa c.wire.length k.s.wc, .int .i64 (c.pos : Int), .bool c.tk.b, .int .u8 (c.tk.m : Int), .slice k.s.ta c.tk.l.length k.s.tc, .int .u8 (c.tk.p : Int), .bool c.tk.fi, .bool c.rl, .int .u8 (c.rm : Int), .bool c.err, .bool c.owed, .pointer (some ⟨k.gm, 0, none⟩), .slice k.fa k.fl.length k.fc, .pointer (some ⟨k.gf, 0, none⟩), .int .i64 now]

/-- A slice of a controller lies there. -/
def AtS (s : Sl) (q : Addr) : Prop := s.da = some q ∨ s.wa = some q ∨ s.ta = some q

/-- A driver in its box: all its blocks lie from B on, and are in S. -/
structure DvM (B : Nat) (w : World) (g : Nat) (d : Dv) (k : Dm) (S : Nat → Prop) : Prop where
  box : w.heap[g]? = some (.cells (dvV g d.c k d.now) 96 (0, 0))
  ct : CtO B w d.c k.s
  ml : MlO B w k.gm k.m k.ma k.mc k.Sm
  ff : FfO B w k.gf k.gs k.fm k.ra k.rc k.st k.Sf
  fi : RK fiE 3 w k.fa k.fl.length k.fc k.fl
  fok : ∀ x ∈ k.fl, x.Ok
  fln : k.fl.length ≤ 64
  q : d.q = qM k.m
  rx : d.rx = k.fm.fs.map sX
  ov : d.ov = k.fm.ov
  kp : d.keep = k.fm.room
  pass : d.pass = fun F => passF F.id F.ext k.fl
  hB : B ≤ g
  sB : ∀ b, S b → B ≤ b
  sL : ∀ b, S b → b < w.heap.size
  sg : S g
  sm : ∀ b, k.Sm b → S b
  sf : ∀ b, k.Sf b → S b
  sc : ∀ q, AtS k.s q → S q.block
  si : ∀ q, k.fa = some q → S q.block
  ng : ¬ k.Sm g ∧ ¬ k.Sf g
  nmf : ∀ b, k.Sm b → ¬ k.Sf b
  nc : ∀ q, AtS k.s q → q.block ≠ g ∧ ¬ k.Sm q.block ∧ ¬ k.Sf q.block
  ni : ∀ q, k.fa = some q → q.block ≠ g ∧ ¬ k.Sm q.block ∧ ¬ k.Sf q.block

section
variable {B : Nat} {w w1 w2 : World} {g : Nat} {d d' : Dv} {k : Dm} {S S1 : Nat → Prop}

theorem ctO_ch {c : Ct} {s : Sl} (h : CtO B w c s) (e : Ch S w w1) (hn : ∀ q, AtS s q → ¬ S q.block) : CtO B w1 c s :=
  ⟨h.da.ch e fun q hq => hn q (.inl hq), h.wi.ch e fun q hq => hn q (.inr (.inl hq)), h.ti.ch e fun q hq => hn q (.inr (.inr hq))⟩
theorem ctO_at {c : Ct} {s : Sl} (h : CtO B w c s) {q : Addr} (hq : AtS s q) : q.block < w.heap.size ∧ B ≤ q.block := by
  rcases hq with hq | hq | hq
  · exact h.da.ltB hq
  · exact h.wi.ltB hq
  · exact h.ti.ltB hq

theorem DvM.lt (h : DvM B w g d k S) : g < w.heap.size := bx_lt h.box
theorem DvM.thaw (h : DvM B w g d k S) (i : Nat) : w.frozen? ⟨g, i, none⟩ = false := bx_thaw h.box i

/-- What changes none of its blocks leaves a driver. -/
theorem DvM.ch (h : DvM B w g d k S) (e : Ch S1 w w1) (hn : ∀ b, S b → ¬ S1 b) : DvM B w1 g d k S :=
  ⟨e.bx h.box (hn _ h.sg), ctO_ch h.ct e fun q hq => hn _ (h.sc q hq), h.ml.ch e fun b hb => hn b (h.sm b hb), h.ff.ch e fun b hb => hn b (h.sf b hb), h.fi.ch e fun q hq => hn _ (h.si q hq),
    h.fok, h.fln, h.q, h.rx, h.ov, h.kp, h.pass, h.hB, h.sB, fun b hb => Nat.lt_of_lt_of_le (h.sL b hb) e.size, h.sg, h.sm, h.sf, h.sc, h.si, h.ng, h.nmf, h.nc, h.ni⟩
theorem DvM.below (h : DvM B w g d k S) (e : Below w.heap.size w w1) : DvM B w1 g d k S := h.ch (S1 := fun _ => False) (Ch.of_below e) fun _ _ x => x
theorem DvM.alloc (h : DvM B w g d k S) (o : Obj) : DvM B (w.alloc o) g d k S := h.below (bnew0 w o)
theorem DvM.drewN (h : DvM B w g d k S) (q : Nat) : DvM B (w.drewN q) g d k S := h.below (below_drewN (Below.refl _ _) q)
theorem DvM.drew (h : DvM B w g d k S) : DvM B w.drew g d k S := h.below (Below.refl _ _).drew

/-- Its mail has changed. -/
theorem DvM.mail (h : DvM B w g d k S) (e : Ch k.Sm w w1) {m' : Ml} {a' : Option Addr} {c' : Nat} {S' : Nat → Prop} (o : MlO B w1 k.gm m' a' c' S') (hs : ∀ b, S' b → k.Sm b ∨ w.heap.size ≤ b) :
    DvM B w1 g { d with q := qM m' } { k with m := m', ma := a', mc := c', Sm := S' } (fun b => S b ∨ S' b) := by
  have hlt : ∀ b, S b → ¬ k.Sm b → ¬ S' b := fun b hb hn x => (hs b x).elim hn (fun y => by have := h.sL b hb; omega)
  refine ⟨e.bx h.box h.ng.1, ctO_ch h.ct e fun q hq => (h.nc q hq).2.1, o, h.ff.ch e fun b hb hm => h.nmf b hm hb, h.fi.ch e fun q hq => (h.ni q hq).2.1, h.fok, h.fln, rfl, h.rx, h.ov, h.kp, h.pass, h.hB, ?_, ?_, .inl h.sg, fun b hb => .inr hb, fun b hb => .inl (h.sf b hb), fun q hq => .inl (h.sc q hq), fun q hq => .inl (h.si q hq), ⟨hlt g h.sg h.ng.1, h.ng.2⟩, ?_, ?_, ?_⟩
  · intro b hb; exact hb.elim (h.sB b) (o.sB b)
  · intro b hb; exact hb.elim (fun x => Nat.lt_of_lt_of_le (h.sL b x) e.size) (o.sL b)
  · intro b hb hf
    exact hlt b (h.sf b hf) (fun x => h.nmf b x hf) hb
  · intro q hq
    obtain ⟨a1, a2, a3⟩ := h.nc q hq
    exact ⟨a1, hlt _ (h.sc q hq) a2, a3⟩
  · intro q hq
    obtain ⟨a1, a2, a3⟩ := h.ni q hq
    exact ⟨a1, hlt _ (h.si q hq) a2, a3⟩
/-- .. within its blocks. -/
theorem DvM.mail0 (h : DvM B w g d k S) (e : Ch k.Sm w w1) {m' : Ml} {a' : Option Addr} {c' : Nat} (o : MlO B w1 k.gm m' a' c' k.Sm) : DvM B w1 g { d with q := qM m' } { k with m := m', ma := a', mc := c' } S := by
  have z := h.mail e o (fun b hb => .inl hb)
  have hi : ∀ b, (S b ∨ k.Sm b) → S b := fun b hb => hb.elim id (h.sm b)
  exact ⟨z.box, z.ct, z.ml, z.ff, z.fi, z.fok, z.fln, z.q, z.rx, z.ov, z.kp, z.pass, z.hB, h.sB, fun b hb => Nat.lt_of_lt_of_le (h.sL b hb) e.size, h.sg, h.sm, h.sf, h.sc, h.si, h.ng, h.nmf, h.nc, h.ni⟩

/-- Its fifo has changed. -/
theorem DvM.fifo (h : DvM B w g d k S) (e : Ch k.Sf w w1) {m' : Fm} {g2 : Nat} {a' : Option Addr} {c' : Nat} {st' : List Rx} {S' : Nat → Prop} (o : FfO B w1 k.gf g2 m' a' c' st' S') (hs : ∀ b, S' b → k.Sf b ∨ w.heap.size ≤ b) :
    DvM B w1 g { d with rx := m'.fs.map sX, ov := m'.ov, keep := m'.room } { k with gs := g2, fm := m', ra := a', rc := c', st := st', Sf := S' } (fun b => S b ∨ S' b) := by
  have hlt : ∀ b, S b → ¬ k.Sf b → ¬ S' b := fun b hb hn x => (hs b x).elim hn (fun y => by have := h.sL b hb; omega)
  refine ⟨e.bx h.box h.ng.2, ctO_ch h.ct e fun q hq => (h.nc q hq).2.2, h.ml.ch e fun b hb hf => h.nmf b hb hf, o, h.fi.ch e fun q hq => (h.ni q hq).2.2, h.fok, h.fln, h.q, rfl, rfl, rfl, h.pass, h.hB, ?_, ?_, .inl h.sg, fun b hb => .inl (h.sm b hb), fun b hb => .inr hb, fun q hq => .inl (h.sc q hq), fun q hq => .inl (h.si q hq), ⟨h.ng.1, hlt g h.sg h.ng.2⟩, ?_, ?_, ?_⟩
  · intro b hb; exact hb.elim (h.sB b) (o.sB b)
  · intro b hb; exact hb.elim (fun x => Nat.lt_of_lt_of_le (h.sL b x) e.size) (o.sL b)
  · intro b hb
    exact hlt b (h.sm b hb) (h.nmf b hb)
  · intro q hq
    obtain ⟨a1, a2, a3⟩ := h.nc q hq
    exact ⟨a1, a2, hlt _ (h.sc q hq) a3⟩
  · intro q hq
    obtain ⟨a1, a2, a3⟩ := h.ni q hq
    exact ⟨a1, a2, hlt _ (h.si q hq) a3⟩

theorem dv_list (g : Nat) (c : Ct) (k : Dm) (now : Int) : (dvV g c k now).toList = .pointer (some ⟨g, 0, none⟩) :: ((ctA c k.s).toList ++ [.pointer (some ⟨k.gm, 0, none⟩), .slice k.fa k.fl.length k.fc, .pointer (some ⟨k.gf, 0, none⟩), .int .i64 now]) := rfl
theorem dv_put (g : Nat) (c c' : Ct) (k : Dm) (s' : Sl) (now : Int) : wrC (dvV g c k now) 1 (ctA c' s').toList = dvV g c' { k with s := s' } now := by
  apply Array.toList_inj.1
  have h1 : (ctA c k.s).toList.length = 26 := rfl
  have h2 : (ctA c' s').toList.length = 26 := rfl
  rw [wrC_list _ _ _ (by rw [h2, show (dvV g c k now).size = 31 from rfl]; decide), dv_list, dv_list, h2, List.take_succ_cons, List.take_zero, Nat.add_comm 1 26, List.drop_succ_cons, List.drop_left' h1]
  rfl
theorem dv_now (g : Nat) (c : Ct) (k : Dm) (now t : Int) : (dvV g c k now).setIfInBounds 30 (.int .i64 t) = dvV g c k t := rfl

/-- The cells. -/
theorem DvM.q0 (h : DvM B w g d k S) : w.cell? ⟨g, 0, none⟩ = some (.pointer (some ⟨g, 0, none⟩)) := by rw [cell_of_row w g 0 _ _ _ h.box]; rfl
theorem DvM.q8 (h : DvM B w g d k S) : w.cell? ⟨g, 8, none⟩ = some (.bool d.c.has) := by rw [cell_of_row w g 8 _ _ _ h.box]; rfl
theorem DvM.q27 (h : DvM B w g d k S) : w.cell? ⟨g, 27, none⟩ = some (.pointer (some ⟨k.gm, 0, none⟩)) := by rw [cell_of_row w g 27 _ _ _ h.box]; rfl
theorem DvM.q28 (h : DvM B w g d k S) : w.cell? ⟨g, 28, none⟩ = some (.slice k.fa k.fl.length k.fc) := by rw [cell_of_row w g 28 _ _ _ h.box]; rfl
theorem DvM.q29 (h : DvM B w g d k S) : w.cell? ⟨g, 29, none⟩ = some (.pointer (some ⟨k.gf, 0, none⟩)) := by rw [cell_of_row w g 29 _ _ _ h.box]; rfl
theorem DvM.q30 (h : DvM B w g d k S) : w.cell? ⟨g, 30, none⟩ = some (.int .i64 d.now) := by rw [cell_of_row w g 30 _ _ _ h.box]; rfl
/-- The controller's, as a range. -/
theorem DvM.rng (h : DvM B w g d k S) : w.rangeAt g 1 (ctA d.c k.s).toList := by
  intro j v hv
  have hj : j < (ctA d.c k.s).toList.length := (List.getElem?_eq_some_iff.1 hv).1
  rw [cell_of_row w g (1 + j) _ _ _ h.box, ← Array.getElem?_toList, dv_list, Nat.add_comm 1 j, List.getElem?_cons_succ, List.getElem?_append_left hj]
  exact hv
theorem DvM.there (h : DvM B w g d k S) : w.there g 1 26 := by
  intro j hj
  refine ⟨?_, h.thaw _⟩
  rw [cell_of_row w g (1 + j) _ _ _ h.box]
  have : (dvV g d.c k d.now).size = 31 := rfl
  simp [this]; omega

/-- Another controller is stored; its slices lie from N on, where nothing of the driver lies. -/
theorem DvM.setC (h : DvM B w g d k S) {N : Nat} {c' : Ct} {s' : Sl} (ho : CtO N w c' s') (hN : ∀ b, S b → b < N) {w' : World} (hw' : Hid (w' = w.setCells g 1 (ctA c' s').toList)) :
    DvM B w' g { d with c := c' } { k with s := s' } (fun b => S b ∨ ∃ q, AtS s' q ∧ q.block = b) ∧ Ch (fun b => b = g) w w' ∧ w'.heap.size = w.heap.size := by
  rw [hw'.out]
  have hw := wr_setCells g (ctA c' s').toList 1 w
  have hz := sz_setCells g (ctA c' s').toList 1 w
  have hc : Ch (fun b => b = g) w (w.setCells g 1 (ctA c' s').toList) := ⟨hw.os, hw.tape, hw.output, hw.size, hw.block⟩
  have hgN := hN g h.sg
  refine ⟨⟨?_, ?_, h.ml.ch hc fun b hb e => h.ng.1 (e ▸ hb), h.ff.ch hc fun b hb e => h.ng.2 (e ▸ hb), h.fi.ch hc fun q hq => (h.ni q hq).1, h.fok, h.fln, h.q, h.rx, h.ov, h.kp, h.pass, h.hB, ?_, ?_, .inl h.sg, fun b hb => .inl (h.sm b hb), fun b hb => .inl (h.sf b hb), ?_, fun q hq => .inl (h.si q hq), h.ng, h.nmf, ?_, h.ni⟩, hc, hz⟩
  · have := heap_setCells_same g 96 (ctA c' s').toList 1 w _ h.box
    rw [dv_put] at this
    exact this
  · exact (ctO_ch ho hc fun q hq e => by have := (ctO_at ho hq).2; omega).mono (by have := h.sB g h.sg; omega)
  · intro b hb
    rcases hb with hb | hb
    · exact h.sB b hb
    · obtain ⟨q, hq, rfl⟩ := hb
      have := (ctO_at ho hq).2; have := h.hB; omega
  · intro b hb
    rw [hz]
    rcases hb with hb | hb
    · exact h.sL b hb
    · obtain ⟨q, hq, rfl⟩ := hb
      exact (ctO_at ho hq).1
  · intro q hq
    exact .inr ⟨q, hq, rfl⟩
  · intro q hq
    have := (ctO_at ho hq).2
    exact ⟨by omega, fun e => by have := hN _ (h.sm _ e); omega, fun e => by have := hN _ (h.sf _ e); omega⟩

/-- The time is stored. -/
theorem DvM.setNow (h : DvM B w g d k S) (t : Int) : DvM B (w.setCell ⟨g, 30, none⟩ (.int .i64 t)) g { d with now := t } k S ∧ Ch (fun b => b = g) w (w.setCell ⟨g, 30, none⟩ (.int .i64 t)) := by
  have hc : Ch (fun b => b = g) w (w.setCell ⟨g, 30, none⟩ (.int .i64 t)) := Ch.setCell (S := fun b => b = g) (Ch.refl _ w) (p := ⟨g, 30, none⟩) (.inl rfl) _
  refine ⟨⟨?_, ctO_ch h.ct hc fun q hq => (h.nc q hq).1, h.ml.ch hc fun b hb e => h.ng.1 (e ▸ hb), h.ff.ch hc fun b hb e => h.ng.2 (e ▸ hb), h.fi.ch hc fun q hq => (h.ni q hq).1, h.fok, h.fln, h.q, h.rx, h.ov, h.kp, h.pass, h.hB, h.sB, fun b hb => by rw [sz_set]; exact h.sL b hb, h.sg, h.sm, h.sf, h.sc, h.si, h.ng, h.nmf, h.nc, h.ni⟩, hc⟩
  rw [heap_setCell_same w g 30 _ _ _ h.box, dv_now]

theorem DvM.mono (h : DvM B w g d k S) {C : Nat} (hC : C ≤ B) : DvM C w g d k S :=
  ⟨h.box, h.ct.mono hC, ⟨h.ml.box, h.ml.row.mono hC, h.ml.wt, by have := h.ml.hB; omega, h.ml.sg, h.ml.sr, h.ml.sd, fun k hk => by have := h.ml.sB k hk; omega, h.ml.ng, h.ml.nd, h.ml.rm, h.ml.le, h.ml.pu, h.ml.wi, h.ml.sL⟩,
    ⟨h.ff.box, h.ff.row.mono hC, h.ff.ad, h.ff.cle, h.ff.nle, h.ff.fr, fun p hp => OL.mono (h.ff.dat p hp) hC, by have := h.ff.hB; omega, h.ff.sg, h.ff.ss, h.ff.ng, h.ff.sd, fun k hk => by have := h.ff.sB k hk; omega, h.ff.nd, h.ff.pw, h.ff.r1, h.ff.rm, h.ff.le, h.ff.sL⟩,
    h.fi, h.fok, h.fln, h.q, h.rx, h.ov, h.kp, h.pass, by have := h.hB; omega, fun b hb => by have := h.sB b hb; omega, h.sL, h.sg, h.sm, h.sf, h.sc, h.si, h.ng, h.nmf, h.nc, h.ni⟩
/-- Told otherwise. -/
theorem DvM.as (h : DvM B w g d k S) (e : d = d') : DvM B w g d' k S := e ▸ h
/-- A larger set. -/
theorem DvM.more (h : DvM B w g d k S) (hs : ∀ b, S b → S1 b) (hB : ∀ b, S1 b → B ≤ b) (hL : ∀ b, S1 b → b < w.heap.size) : DvM B w g d k S1 :=
  ⟨h.box, h.ct, h.ml, h.ff, h.fi, h.fok, h.fln, h.q, h.rx, h.ov, h.kp, h.pass, h.hB, hB, hL, hs _ h.sg, fun b hb => hs _ (h.sm b hb), fun b hb => hs _ (h.sf b hb), fun q hq => hs _ (h.sc q hq), fun q hq => hs _ (h.si q hq), h.ng, h.nmf, h.nc, h.ni⟩
end

/-- The blocks of a driver that are written. -/
def wrS (g : Nat) (k : Dm) (b : Nat) : Prop := b = g ∨ k.Sm b ∨ k.Sf b
theorem DvM.wr {B : Nat} {w : World} {g : Nat} {d : Dv} {k : Dm} {S : Nat → Prop} (h : DvM B w g d k S) {b : Nat} (hb : wrS g k b) : S b := by
  rcases hb with rfl | hb | hb
  · exact h.sg
  · exact h.sm b hb
  · exact h.sf b hb

/-- What a method leaves. -/
def DvR (B : Nat) (w : World) (g : Nat) (k : Dm) (S : Nat → Prop) (d' : Dv) (w' : World) : Prop := ∃ k' S', DvM B w' g d' k' S' ∧ Ch (wrS g k) w w' ∧ (∀ b, S' b → S b ∨ w.heap.size ≤ b) ∧ ∀ b, wrS g k' b → wrS g k b ∨ w.heap.size ≤ b
section
variable {B : Nat} {w w1 w2 : World} {g : Nat} {d d1 d2 : Dv} {k k1 : Dm} {S S1 : Nat → Prop}
theorem DvR.trans (h : DvR B w1 g k1 S1 d2 w2) (c : Ch (wrS g k) w w1) (hs : ∀ b, S1 b → S b ∨ w.heap.size ≤ b) (hk : ∀ b, wrS g k1 b → wrS g k b ∨ w.heap.size ≤ b) : DvR B w g k S d2 w2 := by
  obtain ⟨k', S', a1, a2, a3, a4⟩ := h
  have hz := c.size
  refine ⟨k', S', a1, c.trans a2 hk, fun b hb => ?_, fun b hb => ?_⟩
  · rcases a3 b hb with x | x
    · exact hs b x
    · right; omega
  · rcases a4 b hb with x | x
    · exact hk b x
    · right; omega
theorem DvM.r (h : DvM B w g d k S) (c : Below w.heap.size w w1) : DvR B w g k S d w1 := ⟨_, _, h.below c, Ch.of_below c, fun b hb => .inl hb, fun b hb => .inl hb⟩
end
end Go.Proofs.YtajdbimdiodalaaGreat

namespace Go.Proofs.YtajdbimdiodalaaGreat
open Go.RowKit Go.Sort
set_option linter.unusedVariables false

section
variable {w : World} {c : Ct} {s : Sl}

set_option maxHeartbeats 1000000 in
/-- No frame, or one that is being sent. -/
theorem drop_no (h : CtR w c s) (hd : c.give.data.length ≤ 1000000) (hw : c.wire.length ≤ 1000000) (ht : c.tk.l.length ≤ 1000000) (hn : c.has = false ∨ c.has = true ∧ c.sends = true) :
    Calls Tryz.prog 82 #[.agg (ctA c s)] w fun e w' => ∃ s', e = .returned (.tuple #[.agg (ctA c s'), .bool false]) ∧ CtO w.heap.size w' c s' ∧ Below w.heap.size w w' := by
  have hb0 : ((w.alloc (.cells (ctA c s) 42)).alloc (.cells ctZ 42)).heap[w.heap.size]? = some (.cells (ctA c s) 42 (0, 0)) := bx_alloc _ (heap_alloc_new w _)
  have hr0 : ((w.alloc (.cells (ctA c s) 42)).alloc (.cells ctZ 42)).heap[w.heap.size + 1]? = some (.cells ctZ 42 (0, 0)) := by
    have := heap_alloc_new (w.alloc (.cells (ctA c s) 42)) (.cells ctZ 42); rwa [heap_size_alloc] at this
  have g0 : Below w.heap.size w ((w.alloc (.cells (ctA c s) 42)).alloc (.cells ctZ 42)) := bnew (bnew0 w _) _
  have z0 : ((w.alloc (.cells (ctA c s) 42)).alloc (.cells ctZ 42)).heap.size = w.heap.size + 2 := by simp
  have hA := apart_any _ c s (h.below g0) hd hw ht
  rw [z0] at hA
  rcases hn with hn | ⟨hn, hs⟩
  · have q3 : (ctA c s)[7]? = some (.bool false) := by rw [← hn]; rfl
    have q7 := (bxC hb0 7).trans q3
    clear hn q3
    go_enter Tryz.func82, Tryz.ntmps82
    go_wp2_with (first
      | (with_reducible refine wpList_loadR rowC rfl _ rfl _ rfl hb0 rfl ?_)
      | (go_at_call 52; (with_reducible refine hA.mono ?_); rintro e w4 ⟨s4, rfl, o4, g4⟩; rw [← z0] at g4; have hr4 := bx_below hr0 g4; have gg4 := bstep g0 g4)
      | (with_reducible refine wpList_storeR rowC rfl _ _ rfl _ _ rfl rfl hr4 rfl rfl (ct_ones _ _) ?_))
    have o5 := o4.setRow (o4.nbs (show w.heap.size + 1 < w.heap.size + 2 by omega)) (ctA c s4)
    exact bodyPost_ret (v := .tuple #[.agg (ctA c s4), .bool false]) (results_row1 rowC rfl _ _ _ rfl rfl (setRow_heap _ _ _ _ _ _ hr4) rfl) rfl ⟨_, rfl, o5.mono (by omega), below_setRow gg4 (by omega) _⟩
  · have q3 : (ctA c s)[7]? = some (.bool true) := by rw [← hn]; rfl
    have q7 := (bxC hb0 7).trans q3
    have q4 : (ctA c s)[13]? = some (.bool true) := by rw [← hs]; rfl
    have q13 := (bxC hb0 13).trans q4
    clear hn hs q3 q4
    go_enter Tryz.func82, Tryz.ntmps82
    go_wp2_with (first
      | (with_reducible refine wpList_loadR rowC rfl _ rfl _ rfl hb0 rfl ?_)
      | (go_at_call 52; (with_reducible refine hA.mono ?_); rintro e w4 ⟨s4, rfl, o4, g4⟩; rw [← z0] at g4; have hr4 := bx_below hr0 g4; have gg4 := bstep g0 g4)
      | (with_reducible refine wpList_storeR rowC rfl _ _ rfl _ _ rfl rfl hr4 rfl rfl (ct_ones _ _) ?_))
    have o5 := o4.setRow (o4.nbs (show w.heap.size + 1 < w.heap.size + 2 by omega)) (ctA c s4)
    exact bodyPost_ret (v := .tuple #[.agg (ctA c s4), .bool false]) (results_row1 rowC rfl _ _ _ rfl rfl (setRow_heap _ _ _ _ _ _ hr4) rfl) rfl ⟨_, rfl, o5.mono (by omega), below_setRow gg4 (by omega) _⟩

theorem set6z_same {w : World} {g : Nat} {c : Ct} {s : Sl} {T : TypeId} (hb : w.heap[g]? = some (.cells (ctA c s) T (0, 0))) :
    ((((((w.setCell ⟨g, 7, none⟩ (.bool false)).setCell ⟨g, 8, none⟩ (.int .u32 0)).setCell ⟨g, 9, none⟩ (.bool false)).setCell ⟨g, 10, none⟩ (.bool false)).setCell ⟨g, 11, none⟩ (.int .u8 0)).setCell ⟨g, 12, none⟩ (.slice none 0 0)).heap[g]? =
      some (.cells (ctA { c with has := false, give := zeroFr } { s with da := none, dc := 0 }) T (0, 0)) := by
  have e1 := heap_setCell_same w g 7 _ _ (.bool false) hb
  have e2 := heap_setCell_same _ g 8 _ _ (.int .u32 0) e1
  have e3 := heap_setCell_same _ g 9 _ _ (.bool false) e2
  have e4 := heap_setCell_same _ g 10 _ _ (.bool false) e3
  have e5 := heap_setCell_same _ g 11 _ _ (.int .u8 0) e4
  have e6 := heap_setCell_same _ g 12 _ _ (.slice none 0 0) e5
  rw [e6]
  rfl
theorem set6z_other {w : World} {g q : Nat} (hq : q ≠ g) (v0 v1 v2 v3 v4 v5 : Value) : ((((((w.setCell ⟨g, 7, none⟩ v0).setCell ⟨g, 8, none⟩ v1).setCell ⟨g, 9, none⟩ v2).setCell ⟨g, 10, none⟩ v3).setCell ⟨g, 11, none⟩ v4).setCell ⟨g, 12, none⟩ v5).heap[q]? = w.heap[q]? := by
  rw [Below.heap_setCell _ _ _ _ hq, Below.heap_setCell _ _ _ _ hq, Below.heap_setCell _ _ _ _ hq, Below.heap_setCell _ _ _ _ hq, Below.heap_setCell _ _ _ _ hq, Below.heap_setCell _ _ _ _ hq]
theorem set6z_below {w w1 : World} {B g : Nat} (h : Below B w w1) (hg : B ≤ g) (v0 v1 v2 v3 v4 v5 : Value) :
    Below B w ((((((w1.setCell ⟨g, 7, none⟩ v0).setCell ⟨g, 8, none⟩ v1).setCell ⟨g, 9, none⟩ v2).setCell ⟨g, 10, none⟩ v3).setCell ⟨g, 11, none⟩ v4).setCell ⟨g, 12, none⟩ v5) := by
  have e1 := Below.setCell (p := ⟨g, 7, none⟩) h hg v0
  have e2 := Below.setCell (p := ⟨g, 8, none⟩) e1 hg v1
  have e3 := Below.setCell (p := ⟨g, 9, none⟩) e2 hg v2
  have e4 := Below.setCell (p := ⟨g, 10, none⟩) e3 hg v3
  have e5 := Below.setCell (p := ⟨g, 11, none⟩) e4 hg v4
  exact Below.setCell (p := ⟨g, 12, none⟩) e5 hg v5

set_option maxHeartbeats 1000000 in
/-- A frame that is not being sent. -/
theorem drop_yes (h : CtR w c s) (hw : c.wire.length ≤ 1000000) (ht : c.tk.l.length ≤ 1000000) (hn : c.has = true) (hs : c.sends = false) :
    Calls Tryz.prog 82 #[.agg (ctA c s)] w fun e w' => ∃ s', e = .returned (.tuple #[.agg (ctA { c with has := false, give := zeroFr } s'), .bool true]) ∧ CtO w.heap.size w' { c with has := false, give := zeroFr } s' ∧ Below w.heap.size w w' := by
  obtain ⟨w0, hw0, hb0, hr0, g0⟩ : ∃ w0, Hid ((w.alloc (.cells (ctA c s) 42)).alloc (.cells ctZ 42) = w0) ∧ w0.heap[w.heap.size]? = some (.cells (ctA c s) 42 (0, 0)) ∧ w0.heap[w.heap.size + 1]? = some (.cells ctZ 42 (0, 0)) ∧ Below w.heap.size w w0 :=
    ⟨_, rfl, bx_alloc _ (heap_alloc_new w _), by have := heap_alloc_new (w.alloc (.cells (ctA c s) 42)) (.cells ctZ 42); rwa [heap_size_alloc] at this, bnew (bnew0 w _) _⟩
  have hA := fun (w1 : World) (k1 : CtR w1 { c with has := false, give := zeroFr } { s with da := none, dc := 0 }) => apart_any w1 { c with has := false, give := zeroFr } { s with da := none, dc := 0 } k1 (by show zeroFr.data.length ≤ 1000000; decide) hw ht
  have q3 : (ctA c s)[7]? = some (.bool true) := by rw [← hn]; rfl
  have q7 := (bxC hb0 7).trans q3
  have q4 : (ctA c s)[13]? = some (.bool false) := by rw [← hs]; rfl
  have q13 := (bxC hb0 13).trans q4
  have f0 := bx_thaw hb0
  have hb1 := set6z_same hb0
  have hr1 := (set6z_other (show w.heap.size + 1 ≠ w.heap.size by omega) (.bool false) (.int .u32 0) (.bool false) (.bool false) (.int .u8 0) (.slice none 0 0)).trans hr0
  have g1 := set6z_below g0 (Nat.le_refl _) (.bool false) (.int .u32 0) (.bool false) (.bool false) (.int .u8 0) (.slice none 0 0)
  have q8 : w0.cell? ⟨w.heap.size, 8, none⟩ = some (.int .u32 (c.give.id : Int)) := bxC hb0 8
  have q9 : w0.cell? ⟨w.heap.size, 9, none⟩ = some (.bool c.give.ext) := bxC hb0 9
  have q10 : w0.cell? ⟨w.heap.size, 10, none⟩ = some (.bool c.give.rem) := bxC hb0 10
  have q11 : w0.cell? ⟨w.heap.size, 11, none⟩ = some (.int .u8 (c.give.dlc : Int)) := bxC hb0 11
  have q12 : w0.cell? ⟨w.heap.size, 12, none⟩ = some (.slice s.da c.give.data.length s.dc) := bxC hb0 12
  clear hn hs q3 q4 hr0 g0
  go_enter Tryz.func82, Tryz.ntmps82
  go_upto_region 4 with (rw [hw0.out])
  clear q7 q8 q9 q10 q11 q12 q13 f0 hb0 hw0
  generalize ((((((w0.setCell ⟨w.heap.size, 7, none⟩ (.bool false)).setCell ⟨w.heap.size, 8, none⟩ (.int .u32 0)).setCell ⟨w.heap.size, 9, none⟩ (.bool false)).setCell ⟨w.heap.size, 10, none⟩ (.bool false)).setCell ⟨w.heap.size, 11, none⟩ (.int .u8 0)).setCell ⟨w.heap.size, 12, none⟩ (.slice none 0 0)) = W at *
  have HR : CtR W { c with has := false, give := zeroFr } { s with da := none, dc := 0 } := ⟨(OL.nil _ _ _ _ : OL bv 5 0 _ none 0 0 []).rl, h.wi.below g1, h.ti.below g1⟩
  have hA := hA _ HR
  have z1 := g1.size
  have l2 := bx_lt hr1
  go_wp2_with (first
    | (with_reducible refine wpList_loadR rowC rfl _ rfl _ rfl hb1 rfl ?_)
    | (go_at_call 52; (with_reducible refine hA.mono ?_); rintro e w4 ⟨s4, rfl, o4, g4⟩; have hr4 := bx_below hr1 g4; have gg4 := bstep g1 g4)
    | (with_reducible refine wpList_storeR rowC rfl _ _ rfl _ _ rfl rfl hr4 rfl rfl (ct_ones _ _) ?_))
  have o5 := o4.setRow (o4.nbs l2) (ctA { c with has := false, give := zeroFr } s4)
  exact bodyPost_ret (v := .tuple #[.agg (ctA { c with has := false, give := zeroFr } s4), .bool true]) (results_row1 rowC rfl _ _ _ rfl rfl (setRow_heap _ _ _ _ _ _ hr4) rfl) rfl ⟨_, rfl, o5.mono z1, below_setRow gg4 (by omega) _⟩
/-- The controller behind Drop. -/
def dpC (c : Ct) : Ct := if c.has && !c.sends then { c with has := false, give := zeroFr } else c
theorem drop_any (h : CtR w c s) (hd : c.give.data.length ≤ 1000000) (hw : c.wire.length ≤ 1000000) (ht : c.tk.l.length ≤ 1000000) :
    Calls Tryz.prog 82 #[.agg (ctA c s)] w fun e w' => ∃ s', e = .returned (.tuple #[.agg (ctA (dpC c) s'), .bool (c.has && !c.sends)]) ∧ CtO w.heap.size w' (dpC c) s' ∧ Below w.heap.size w w' := by
  by_cases hb : c.has = true ∧ c.sends = false
  · have e : (c.has && !c.sends) = true := by rw [hb.1, hb.2]; rfl
    rw [show dpC c = { c with has := false, give := zeroFr } from if_pos e, e]
    exact drop_yes h hw ht hb.1 hb.2
  · have hn : c.has = false ∨ c.has = true ∧ c.sends = true := by
      cases e1 : c.has
      · exact .inl rfl
      · cases e2 : c.sends
        · exact absurd ⟨e1, e2⟩ hb
        · exact .inr ⟨rfl, rfl⟩
    have e : (c.has && !c.sends) = false := by rcases hn with e | ⟨e, e'⟩ <;> simp [*]
    rw [show dpC c = c from if_neg (by rw [e]; simp), e]
    exact drop_no h hd hw ht hn
end
end Go.Proofs.YtajdbimdiodalaaGreat

namespace Go.Proofs.YtajdbimdiodalaaGreat
open Go.RowKit Go.Sort
set_option linter.unusedVariables false

/-- No panic. -/
def noPn (Q : Exit → Act → World → Prop) : Exit → Act → World → Prop := fun e a w => match e with
  | .panic _ => False
  | e => Q e a w
theorem noPn_imp {Q : Exit → Act → World → Prop} {e : Exit} {a : Act} {w : World} (h : noPn Q e a w) : Q e a w := by
  cases e <;> first | exact h | exact h.elim

section
variable {P : Program} {ops : Array Oper} {rest : List Oper} {o : Oper} {a : Act} {w : World} {K : Act → World → Prop} {Q : Exit → Act → World → Prop} {S : World → Prop} {T : TypeId} {n : Nat}

theorem yields_loadM (hT : RowT P T n) (hw : Region.wanted o (yielded ops a.tmps) = true) (x : Operand) (ho : o.op = .load T x) (b off : Nat) (hx : a.eval x = .pointer (some ⟨b, off, none⟩)) (cs : Array Value) (hn : cs.size = n)
    (hS : ∀ w, S w → w.rangeAt b off cs.toList) : YieldsIf P ops S o (.agg cs) a := by
  obtain ⟨d, hu, hd⟩ := hT.und
  refine .inl ⟨hw, fun w h => ?_⟩
  have e := run_loadVar_mid (P := P) w b off T cs.toList d (hS w h) hu (by cases d <;> simp_all) (by rw [hT.size, Array.length_toList, hn])
  rw [Array.toArray_toList] at e
  unfold execOp
  simp only [ho, hx, Instr.loadAt, Instr.sureAddr, Sem.run_bind, Sem.run_pure, Result.andThen_ok, e]

/-- A struct is stored in the middle of a block. -/
theorem wpList_setM (hT : RowT P T n) (hgd : o.guard = none) (x y : Operand) (ho : o.op = .store T x y) (b off : Nat) (cells : Array Value) (hx : a.eval x = .pointer (some ⟨b, off, none⟩)) (hy : a.eval y = .agg cells)
    (ht : w.there b off n) (hn : cells.size = n) (h1 : cells.all (·.oneCell') = true) (h : ∀ w', Hid (w' = w.setCells b off cells.toList) → wpList P ops Q rest (a.put o.dst undef) w') : wpList P ops Q (o :: rest) a w :=
  wpList_plain hgd fun _ hK => wp_store_mid T x y ho b off cells hx hy (by rw [hn]; exact ht) (by rw [hT.size, hn]) h1 (hK _ _ (h _ (hid rfl)))
theorem draw_setM (hT : RowT P T n) (hgd : o.guard = none) (x y : Operand) (ho : o.op = .store T x y) (b off : Nat) (cells : Array Value) (hx : a.eval x = .pointer (some ⟨b, off, none⟩)) (hy : a.eval y = .agg cells)
    (ht : w.there b off n) (hn : cells.size = n) (h1 : cells.all (·.oneCell') = true) (h : ∀ w', Hid (w' = w.setCells b off cells.toList) → K (a.put o.dst undef) w') :
    if Region.wanted o (yielded ops a.tmps) = true then Oper.wp P o a w K Q else K (a.put o.dst undef) w := by
  rw [if_pos (by simp [Region.wanted, hgd])]
  exact wp_store_mid T x y ho b off cells hx hy (by rw [hn]; exact ht) (by rw [hT.size, hn]) h1 (h _ (hid rfl))
end
end Go.Proofs.YtajdbimdiodalaaGreat

namespace Go.Proofs.YtajdbimdiodalaaGreat
open Go.RowKit Go.Sort
set_option linter.unusedVariables false

/-- The number on the wire is one of those that wait. -/
theorem be_wire {m : Ml} (hI : MlI m) {p : Wt} (hp : p ∈ m.ws) : beM { m with wire := p.2 } = some p := by
  have key : ∀ l : List Wt, l.Pairwise (fun p q => p.2 < q.2) → p ∈ l → l.find? (fun q => decide (q.2 = p.2)) = some p := by
    intro l
    induction l with
    | nil => intro _ h; cases h
    | cons x l ih =>
      intro hl hm
      rw [List.pairwise_cons] at hl
      rcases List.mem_cons.1 hm with rfl | hm
      · simp
      · have := hl.1 p hm
        rw [List.find?_cons_of_neg (by simp; omega)]
        exact ih hl.2 hm
  have h1 := (hI.no p hp).1
  have hk := key m.ws hI.up hp
  unfold beM
  dsimp only
  cases hw : m.ws with
  | nil => rw [hw] at hp; cases hp
  | cons x l => rw [hw] at hk; dsimp only; rw [if_neg (by omega), hk]

section
variable {B : Nat} {w w1 w2 : World} {g j : Nat} {d : Dv} {k : Dm} {S : Nat → Prop}

theorem DvM.ok (h : DvM B w g d k S) (hJ : DvJ d) (hs : SmC j d.c) (hj : j ≤ 1000000000) : StepOK d.c := sm_ok hJ.on hs hj

set_option maxRecDepth 100000 in
set_option maxHeartbeats 4000000 in
theorem feed_any (h : DvM B w g d k S) (hJ : DvJ d) (hs : SmC j d.c) (hj : j ≤ 1000000000) (u : FrameMode) :
    CallsD Tryz.prog 55 #[.pointer (some ⟨g, 0, none⟩)] u w fun e u' w' => u' = u ∧ e = .returned (.tuple #[]) ∧ DvR B w g k S (feD d) w' := by
  have hok := h.ok hJ hs hj
  obtain ⟨hJ1, _, _⟩ := baD_J hJ
  have hs1 : SmC j (baD d).c := by
    unfold baD
    split
    · exact sm_drop hs
    · exact hs
  have hfe : feD d = giD (baD d) := rfl
  rw [hfe]; clear hfe
  go_enter_d Tryz.func55, Tryz.ntmps55
  have hD := drop_any h.ct.r hok.dl hok.wl hok.tl
  have hrng := h.rng
  have hMI := hJ.mli h.q
  have HE : Hid (baD d = if d.c.has && !d.c.sends then { d with c := dpC d.c, q := loQ d.q } else d) := hid (by unfold baD dpC; split <;> rfl)
  have HC : Hid ((d.c.has && !d.c.sends) = false → dpC d.c = d.c) := hid (fun e => by unfold dpC; rw [e]; rfl)
  generalize dpC d.c = c' at *
  generalize (d.c.has && !d.c.sends) = ok at *
  go_upto_if 17 with (first
    | (with_reducible refine wpList_loadM rowC rfl _ rfl g 1 rfl (ctA d.c k.s) hrng rfl ?_)
    | (go_at_call 82; (with_reducible refine hD.mono ?_); rintro e w1 ⟨s1, rfl, o1, g1⟩
       have z1 := heap_alloc_new w1 (.cells ctZ 42))
    | (with_reducible refine wpList_storeR rowC rfl _ _ rfl _ _ rfl rfl z1 rfl rfl (ct_ones _ _) ?_))
  have g2 := below_setRow (bnew g1 (.cells ctZ 42)) g1.size (ctA c' s1)
  have h1 := h.below g2
  have b1 := setRow_heap (w1.alloc (.cells ctZ 42)) w1.heap.size ctZ (ctA c' s1) 42 (0, 0) z1
  have o2 := (o1.alloc (.cells ctZ 42)).setRow (o1.fresh (Nat.le_refl _)) (ctA c' s1)
  clear z1 o1 g1 hD hrng
  generalize (w1.alloc (.cells ctZ 42)).setRow w1.heap.size (ctA c' s1) = W1 at *
  generalize w1.heap.size = cb at *
  clear w1
  go_cut [17] (fun s17 wx => ∃ k1 S1, DvM B wx g (baD d) k1 S1 ∧ Ch (wrS g k) w wx ∧ (∀ b, S1 b → S b ∨ w.heap.size ≤ b) ∧ (∀ b, wrS g k1 b → wrS g k b))
  case first =>
    have hsL := h.sL
    clear hok hs hs1 hJ1 hJ
    cases ok
    · go_wp2_with fail
      go_meet
      exact ⟨_, _, h1.as HE.out.symm, Ch.of_below g2, fun b hb => .inl hb, fun b hb => hb⟩
    · have t1 := h1.there
      go_wp2_with (first
        | (with_reducible refine wpList_loadR rowC rfl _ rfl _ rfl b1 rfl ?_)
        | (with_reducible refine wpList_setM rowC rfl _ _ rfl g 1 (ctA c' s1) rfl rfl t1 rfl (ct_ones _ _) ?_
           intro W2 hW2
           have f3 := h1.setC o2 hsL hW2
           have hL := lost_any f3.1.ml hMI
           have q27 := f3.1.q27)
        | (go_at_call 83; (with_reducible refine hL.mono ?_); rintro e w4 ⟨rfl, o4, c4⟩))
      go_meet
      have h5 := f3.1.mail0 c4 o4
      refine ⟨_, _, h5.as ?_, ?_, ?_, fun b hb => hb⟩
      · rw [HE.out, h.q, ← lo_map]; rfl
      · exact ((Ch.of_below g2).trans f3.2.1 (fun b e => .inl (.inl e))).trans c4 (fun b hb => .inl (.inr (.inl hb)))
      · intro b hb
        rcases hb with hb | ⟨q, hq, rfl⟩
        · exact .inl hb
        · exact .inr (ctO_at o2 hq).2
  case rest =>
  obtain ⟨k1, S1, h1', ch1, hs1', hw1'⟩ := hcut
  clear h hok hs HE HC h1 b1 o2 g2 hMI
  have h1 := h1'; clear h1'
  generalize hBe : baD d = e at *
  have HB := hid hBe; clear hBe
  clear hJ
  have hMI := hJ1.mli h1.q
  have hrng := h1.rng
  have q8 := h1.q8
  have q27 := h1.q27
  by_cases hh : e.c.has = true
  · rw [hh] at q8
    have HE : Hid (giD e = e) := hid (by unfold giD; rw [if_pos hh])
    clear hh hrng q27 hMI
    go_wp2
    exact bodyPost_ret (v := .tuple #[]) (by simp [results, Tryz.results55, go_sem]) rfl ⟨rfl, _, _, h1.as (by rw [HB.out]; exact HE.out.symm), ch1, hs1', fun b hb => .inl (hw1' b hb)⟩
  · have hf : e.c.has = false := by simpa using hh
    rw [hf] at q8
    clear hh
    cases hbe : beM k1.m with
    | none =>
      have hE : giD e = e := by unfold giD; rw [if_neg (by rw [hf]; simp), h1.q, be_map, hbe]; rfl
      have h0 : k1.m.ws = [] := by
        have h2 := (hJ1.h0 hf).1
        have h3 := beQ_none h2 (by rw [h1.q, be_map, hbe]; rfl)
        rw [h1.q] at h3
        exact List.map_eq_nil_iff.1 h3
      have hS := start_no h1.ml h0
      have HE := hid hE
      clear hE hf hbe h0 hMI
      go_wp2_with (go_at_call 84; (with_reducible refine hS.mono ?_); rintro e w2 ⟨rfl, rfl⟩)
      exact bodyPost_end (v := .tuple #[]) (by simp [results, Tryz.results55, go_sem]) rfl ⟨rfl, _, _, h1.as (by rw [HB.out]; exact HE.out.symm), ch1, hs1', fun b hb => .inl (hw1' b hb)⟩
    | some p =>
      have HE : Hid (giD e = { e with c := { e.c with has := true, give := p.1.1 }, q := { e.q with wire := p.2 } }) := hid (by unfold giD; rw [if_neg (by rw [hf]; simp), h1.q, be_map, hbe]; rfl)
      have hmem := beM_num hbe
      have hS := start_any h1.ml p hbe
      have hG : Good p.1.1 := (hJ1.no (sQ p) (by rw [h1.q]; exact List.mem_map_of_mem hmem)).2.2
      have hBW := be_wire hMI hmem
      have HQ := hid h1.q
      have hok1 := sm_ok hJ1.on hs1 hj
      obtain ⟨hwl, htl⟩ : e.c.wire.length ≤ 1000000 ∧ e.c.tk.l.length ≤ 1000000 := ⟨hok1.wl, hok1.tl⟩
      clear hbe hMI hJ1 hs1 hok1
      go_upto_region 8 with (first
        | (go_at_call 84; (with_reducible refine hS.mono ?_); rintro e w2 ⟨rfl, o2, c2⟩
           have h2 := h1.mail0 c2 o2
           have r27 := h2.q27
           have hB := best_any h2.ml p hBW)
        | (go_at_call 85; (with_reducible refine hB.mono ?_); rintro e w3 ⟨da, dc, rfl, od, g3⟩
           have h3 := h2.below g3
           have z3 := heap_alloc_new w3 (.cells frZr 35))
        | (with_reducible refine wpList_storeR rowF rfl _ _ rfl _ _ rfl rfl z3 rfl rfl (fr_ones _ _ _) ?_))
      have g4 : Below w3.heap.size w3 ((w3.alloc (.cells frZr 35)).setRow w3.heap.size (frV p.1.1 da dc)) := below_setRow (bnew0 w3 _) (Nat.le_refl _) _
      have h4 := h3.below g4
      have b4 := setRow_heap (w3.alloc (.cells frZr 35)) w3.heap.size frZr (frV p.1.1 da dc) 35 (0, 0) z3
      have r4 := od.rl.below g4
      have c4 := ((ch1.trans c2 (fun b hb => .inl (hw1' b (.inr (.inl hb))))).call g3).call g4
      generalize (w3.alloc (.cells frZr 35)).setRow w3.heap.size (frV p.1.1 da dc) = W at *
      have hbl := bx_lt b4
      generalize w3.heap.size = fb at *
      clear h3 h2 z3 od g4 g3 o2 c2 r27 hB hrng q8 q27 hS h1 hBW
      have HS : Below W.heap.size W W.drew := (Below.refl _ _).drew
      have hgl := h4.lt
      have hr := h4.rng
      have hrw : ∀ w', Below W.heap.size W w' → w'.rangeAt g 1 (ctA e.c k1.s).toList := fun w' hw => (h4.below hw).rng
      have hdr := h4.drew
      refine Rest.begin (S := fun w' => Below W.heap.size W w') (X := [6, 12]) (by kernel_rfl) ?_
      change Rest _ _ _ _ _ _ _ _ _ W.drew
      refine Rest.take (i := 0) (v := .pointer (some ⟨g, 0, none⟩)) rfl (by kernel_rfl) (by kernel_rfl) (by kernel_rfl) (by kernel_rfl) (fun _ _ _ h => h) (.inl HS) (Or.inl ⟨by simp [Region.wanted], ?_⟩) ?_
      · intro w; go_simp
      refine Rest.take (i := 1) (v := .pointer (some ⟨g, 0, none⟩)) rfl (by kernel_rfl) (by kernel_rfl) (by kernel_rfl) (by kernel_rfl) (fun _ _ _ h => h) (.inl HS) (Or.inl ⟨by simp [Region.wanted], ?_⟩) ?_
      · intro w; go_simp
      refine Rest.take (i := 2) (v := .pointer (some ⟨g, 0, none⟩)) rfl (by kernel_rfl) (by kernel_rfl) (by kernel_rfl) (by kernel_rfl) (fun _ _ _ h => h) (.inl HS) (Or.inl ⟨by simp [Region.wanted], ?_⟩) ?_
      · intro w; go_simp
      refine Rest.take (i := 3) (v := .pointer (some ⟨g, 1, none⟩)) rfl (by kernel_rfl) (by kernel_rfl) (by kernel_rfl) (by kernel_rfl) (fun _ _ _ h => h) (.inl HS) (Or.inl ⟨by simp [Region.wanted], ?_⟩) ?_
      · intro w; go_simp
      refine Rest.takeS (i := 4) (v := .agg (ctA e.c k1.s)) rfl (by kernel_rfl) (by kernel_rfl) (by kernel_rfl) (by kernel_rfl) (fun _ _ _ h => h) HS (yields_loadM rowC (by simp [Region.wanted]) _ rfl g 1 (by simp [Act.eval, Act.put]) _ rfl hrw) ?_
      refine Rest.takeS (i := 5) (v := .agg (frV p.1.1 da dc)) rfl (by kernel_rfl) (by kernel_rfl) (by kernel_rfl) (by kernel_rfl) (fun _ _ _ h => h) HS (yields_loadR rowF (by simp [Region.wanted]) _ rfl fb (by simp [Act.eval, Act.put]) _ rfl (fun w' hw => ⟨_, _, bx_below b4 hw⟩)) ?_
      refine Rest.one (i := 6) (by kernel_rfl) rfl (fun K hK => ?_)
      refine draw_callF 86 (by kernel_rfl) (by simp [Region.wanted]) _ _ _ rfl (by simp [Act.eval]) #[.agg (ctA e.c k1.s), .agg (frV p.1.1 da dc)] (by simp [Act.eval, Act.put]) _ (give_yes _ _ _ p.1.1 hG da dc hdr.ct.r r4.drew hf hwl htl) ?_
      rintro e5 w5 ⟨s5, rfl, o5, g5⟩
      refine ⟨_, rfl, ?_⟩
      have g45 : Below W.heap.size W w5 := HS.trans g5
      have h5 := h4.below g45
      have t5 := h5.there
      have z5 := g45.size
      refine hK _ _ ⟨.inl g45, ?_⟩; clear hK K
      refine Rest.take (i := 7) (v := .tuple #[.agg (ctA { e.c with has := true, give := p.1.1 } s5), .int .i64 0]) rfl (by kernel_rfl) (by kernel_rfl) (by kernel_rfl) (by kernel_rfl) (fun _ _ _ h => h) (.inl g45) (Or.inl ⟨by simp [Region.wanted], ?_⟩) ?_
      · intro w; go_simp
      refine Rest.take (i := 8) (v := .agg (ctA { e.c with has := true, give := p.1.1 } s5)) rfl (by kernel_rfl) (by kernel_rfl) (by kernel_rfl) (by kernel_rfl) (fun _ _ _ h => h) (.inl g45) (Or.inl ⟨by simp [Region.wanted], ?_⟩) ?_
      · intro w; go_simp
      refine Rest.take (i := 9) (v := .int .i64 0) rfl (by kernel_rfl) (by kernel_rfl) (by kernel_rfl) (by kernel_rfl) (fun _ _ _ h => h) (.inl g45) (Or.inl ⟨by simp [Region.wanted], ?_⟩) ?_
      · intro w; go_simp
      refine Rest.take (i := 10) (v := .pointer (some ⟨g, 0, none⟩)) rfl (by kernel_rfl) (by kernel_rfl) (by kernel_rfl) (by kernel_rfl) (fun _ _ _ h => h) (.inl g45) (Or.inl ⟨by simp [Region.wanted], ?_⟩) ?_
      · intro w; go_simp
      refine Rest.take (i := 11) (v := .pointer (some ⟨g, 1, none⟩)) rfl (by kernel_rfl) (by kernel_rfl) (by kernel_rfl) (by kernel_rfl) (fun _ _ _ h => h) (.inl g45) (Or.inl ⟨by simp [Region.wanted], ?_⟩) ?_
      · intro w; go_simp
      refine Rest.one (i := 12) (by kernel_rfl) rfl (fun K hK => ?_)
      with_reducible refine draw_setM rowC ?za (.tmp 61) (.tmp 58) ?zb g 1 (ctA { e.c with has := true, give := p.1.1 } s5) ?zc ?zd t5 ?ze ?zf ?zg
      case za => rfl
      case zb => rfl
      case zc => simp [Act.eval, Act.put]
      case zd => simp [Act.eval, Act.put]
      case ze => rfl
      case zf => exact ct_ones _ _
      intro W6 hW6
      have f5 := (h5.setC o5 h4.sL hW6).1
      have w5r := (h5.setC o5 h4.sL hW6).2.1
      refine hK _ _ ⟨.inr (thru_of (by kernel_rfl)), Rest.of_any _ _ _ _ (thru_of (by kernel_rfl)) ?_⟩; clear hK K
      refine wpAny_done (by kernel_rfl) ?_ _
      have cF := (c4.call g45).trans w5r (fun b hb => .inl (.inl hb))
      have sF : ∀ b, (S1 b ∨ ∃ q, AtS s5 q ∧ q.block = b) → S b ∨ w.heap.size ≤ b := fun b hb => by
        rcases hb with hb | ⟨q, hq, rfl⟩
        · exact hs1' b hb
        · have h1 := c4.size; have h2 : W.drew.heap.size = W.heap.size := rfl; have h3 := (ctO_at o5 hq).2; right; omega
      have fF := f5.as (d' := giD (baD d)) (by rw [HB.out, HE.out, HQ.out]; rfl)
      clear HS hrw hdr h4 h5 g45 o5 g5 t5 f5 w5r
      go_wp2
      exact bodyPost_end (v := .tuple #[]) (by simp [results, Tryz.results55, go_sem]) rfl ⟨rfl, _, _, fF, cF, sF, fun b hb => .inl (hw1' b hb)⟩
end
end Go.Proofs.YtajdbimdiodalaaGreat

namespace Go.Proofs.YtajdbimdiodalaaGreat
open Go.RowKit Go.Sort
set_option linter.unusedVariables false

/-- A fifo of the call's own, whatever its blocks; nothing that was there has changed. -/
def FfG (w0 : World) (g : Nat) (m : Fm) (w : World) : Prop := (∃ s a c st S, FfO w0.heap.size w g s m a c st S) ∧ Below w0.heap.size w0 w

section
variable {w0 w w1 : World} {g : Nat} {m : Fm}
theorem FfG.call (h : FfG w0 g m w) (k : Below w.heap.size w w1) : FfG w0 g m w1 := by
  obtain ⟨⟨s, a, c, st, S, h⟩, hb⟩ := h
  exact ⟨⟨s, a, c, st, S, h.below k⟩, bstep hb k⟩
theorem FfG.le (h : FfG w0 g m w) : m.fs.length ≤ m.room := by obtain ⟨⟨s, a, c, st, S, h⟩, hb⟩ := h; exact h.le

end
end Go.Proofs.YtajdbimdiodalaaGreat

namespace Go.Proofs.YtajdbimdiodalaaGreat
open Go.RowKit Go.Sort
set_option linter.unusedVariables false

end Go.Proofs.YtajdbimdiodalaaGreat
