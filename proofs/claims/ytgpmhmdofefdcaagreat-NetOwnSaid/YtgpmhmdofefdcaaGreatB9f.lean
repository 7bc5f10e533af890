/-
  Words on nets: rows of controllers (26 cells each) and of what happens (6 cells each), read and owned; whole elements loaded out of, and stored into, the middle of a block.
  Contracts of net's small functions: which numbers are nodes, which ones are up; whether a number is among the flips.
  Contract: a net in memory of its own (apart).
  Contract: what the nodes of a net drive.
  Contracts: the closures of net.Step (whether a flip is the number of a node, whether a node is among the flips), and the search through the flips.
  Contracts: a net with another controller at a node (with); a new net; a crash.
-/
import Derived.Test.YtgpmhmdofefdcaaGreatB8r
import Derived.Deep.MidRow
import Derived.Test.YtgpmhmdofefdcaaGreatB8u
namespace Go.Proofs.YtgpmhmdofefdcaaGreat
open Go.RowKit Go.Sort
set_option linter.unusedVariables false

/-- A node: a controller, and where its slices lie. -/
abbrev Nd := Ct × Sl
def enC (p : Nd) : List Value := (ctA p.1 p.2).toList
theorem enC_k : EnK enC 26 := ⟨fun _ => rfl, fun p v hv => (Array.all_eq_true_iff_forall_mem.1 (ct_ones p.1 p.2)) v (by simpa [enC] using hv)⟩
theorem elC : ElK Tryz.prog 28 54 26 (.agg ctZ) 184 := ⟨by kernel_rfl, by kernel_rfl, by kernel_rfl, by kernel_rfl, rfl, by omega⟩
/-- What happened, and where its data lie. -/
abbrev Hd := Hp × (Option Addr × Nat)
def enH (p : Hd) : List Value := (hapA p.1 p.2.1 p.2.2).toList
theorem enH_k : EnK enH 6 := ⟨fun _ => rfl, fun p v hv => (Array.all_eq_true_iff_forall_mem.1 (hap_ones p.1 p.2.1 p.2.2)) v (by simpa [enH] using hv)⟩
theorem elH : ElK Tryz.prog 34 63 6 (.agg hap0) 40 := ⟨by kernel_rfl, by kernel_rfl, by kernel_rfl, by kernel_rfl, rfl, by omega⟩
theorem rowN : RowT Tryz.prog 31 3 := rowT_of (by kernel_rfl) (by kernel_rfl)
theorem rowLn : RowT Tryz.prog 36 4 := rowT_of (by kernel_rfl) (by kernel_rfl)
end Go.Proofs.YtgpmhmdofefdcaaGreat

namespace Go.Proofs.YtgpmhmdofefdcaaGreat
open Go.RowKit Go.Sort
set_option linter.unusedVariables false

/-- Where a net's lists lie. -/
structure Na where
  na : Option Addr
  nc : Nat
  ca : Option Addr
  cc : Nat
/-- The cells of a net. -/
def ntA (s : Na) (n m : Nat) (z : Int) : Array Value := #[.slice s.na n s.nc, .slice s.ca m s.cc, .int .i64 z]
theorem nt_ones (s : Na) (n m : Nat) (z : Int) : (ntA s n m z).all (·.oneCell') = true := by kernel_rfl

/-- A net, read: its nodes, and which of them are crashed. -/
structure NtR (w : World) (s : Na) (ps : List Nd) (cr : List Bool) : Prop where
  nod : RK enC 26 w s.na ps.length s.nc ps
  cra : RL .bool w s.ca cr.length s.cc cr
  sl : ∀ p ∈ ps, CtR w p.1 p.2
/-- .. in memory of its own, from B on; its lists lie in blocks of their own. -/
structure NtO (B : Nat) (w : World) (s : Na) (ps : List Nd) (cr : List Bool) : Prop where
  nod : OK enC 26 54 B w s.na ps.length s.nc ps
  cra : OL .bool 4 B w s.ca cr.length s.cc cr
  sl : ∀ p ∈ ps, CtO B w p.1 p.2
  sn : ∀ g, s.na = some ⟨g, 0, none⟩ → (∀ p ∈ ps, NBs p.2 g) ∧ NB s.ca g
  sc : ∀ g, s.ca = some ⟨g, 0, none⟩ → (∀ p ∈ ps, NBs p.2 g) ∧ NB s.na g

section
variable {B : Nat} {w w1 : World} {s : Na} {ps : List Nd} {cr : List Bool}
theorem NtR.below (h : NtR w s ps cr) (k : Below w.heap.size w w1) : NtR w1 s ps cr := ⟨h.nod.below k, h.cra.below k, fun p hp => (h.sl p hp).below k⟩
theorem NtO.r (h : NtO B w s ps cr) : NtR w s ps cr := ⟨h.nod.rk enC_k, h.cra.rl, fun p hp => (h.sl p hp).r⟩
theorem NtO.below (h : NtO B w s ps cr) (k : Below w.heap.size w w1) : NtO B w1 s ps cr := ⟨h.nod.below k, h.cra.below k, fun p hp => (h.sl p hp).below k, h.sn, h.sc⟩
theorem NtO.mono {B' : Nat} (h : NtO B w s ps cr) (hB : B' ≤ B) : NtO B' w s ps cr := ⟨h.nod.mono hB, h.cra.mono hB, fun p hp => (h.sl p hp).mono hB, h.sn, h.sc⟩
/-- A block below is written. -/
theorem NtO.setRow (h : NtO B w s ps cr) {g : Nat} (hg : g < B) (cs : Array Value) : NtO B (w.setRow g cs) s ps cr :=
  ⟨h.nod.kept fun q hq => setRow_other _ _ _ _ (by have := (h.nod.ltB hq).2; simp at this; omega), h.cra.kept fun q hq => setRow_other _ _ _ _ (by have := (h.cra.ltB hq).2; simp at this; omega), fun p hp => (h.sl p hp).setRow ((h.sl p hp).nbs hg) cs, h.sn, h.sc⟩
end

/-- A box of three cells. -/
theorem bx3 {w : World} {g : Nat} {E : TypeId} {v0 v1 v2 : Value} (h : w.heap[g]? = some (.cells #[v0, v1, v2] E (0, 0))) :
    w.cell? ⟨g, 0, none⟩ = some v0 ∧ w.cell? ⟨g, 1, none⟩ = some v1 ∧ w.cell? ⟨g, 2, none⟩ = some v2 :=
  ⟨by rw [cell_of_row w g 0 _ _ _ h]; rfl, by rw [cell_of_row w g 1 _ _ _ h]; rfl, by rw [cell_of_row w g 2 _ _ _ h]; rfl⟩
theorem bx4 {w : World} {g : Nat} {E : TypeId} {v0 v1 v2 v3 : Value} (h : w.heap[g]? = some (.cells #[v0, v1, v2, v3] E (0, 0))) :
    w.cell? ⟨g, 0, none⟩ = some v0 ∧ w.cell? ⟨g, 1, none⟩ = some v1 ∧ w.cell? ⟨g, 2, none⟩ = some v2 ∧ w.cell? ⟨g, 3, none⟩ = some v3 :=
  ⟨by rw [cell_of_row w g 0 _ _ _ h]; rfl, by rw [cell_of_row w g 1 _ _ _ h]; rfl, by rw [cell_of_row w g 2 _ _ _ h]; rfl, by rw [cell_of_row w g 3 _ _ _ h]; rfl⟩

theorem has_any (w : World) (s : Na) (n m : Nat) (z k : Int) : Calls Tryz.prog 23 #[.agg (ntA s n m z), .int .i64 k] w fun e w' => e = .returned (.bool (decide (0 ≤ k ∧ k < (n : Int)))) ∧ Below w.heap.size w w' := by
  have g0 := bnew0 w (.cells (ntA s n m z) 31)
  have q0 := (bx3 (heap_alloc_new w (.cells (ntA s n m z) 31))).1
  by_cases h0 : 0 ≤ k
  · by_cases h1 : k < (n : Int)
    · go_enter Tryz.func23, Tryz.ntmps23
      go_wp2
      go_ret
      exact ⟨ret_bool (a := true) (by simp [h0, h1]), g0⟩
    · go_enter Tryz.func23, Tryz.ntmps23
      go_wp2
      go_ret
      exact ⟨ret_bool (a := false) (by simp [h1]), g0⟩
  · go_enter Tryz.func23, Tryz.ntmps23
    go_wp2
    go_ret
    exact ⟨ret_bool (a := false) (by simp; omega), g0⟩

/-- Is there a node with that number that has not crashed? -/
def upB (n : Nat) (cr : List Bool) (k : Int) : Bool := decide (0 ≤ k ∧ k < (n : Int)) && (decide ((cr.length : Int) ≤ k) || !(cr[k.toNat]?.getD false))

theorem up_any (w : World) (s : Na) (n : Nat) (cr : List Bool) (z k : Int) (h : RL .bool w s.ca cr.length s.cc cr) (hn : n ≤ 1000000) (hm : cr.length ≤ 1000000) :
    Calls Tryz.prog 30 #[.agg (ntA s n cr.length z), .int .i64 k] w fun e w' => e = .returned (.bool (upB n cr k)) ∧ Below w.heap.size w w' := by
  obtain ⟨sna, snc, sca, scc⟩ := s
  have g0 := bnew0 w (.cells (ntA ⟨sna, snc, sca, scc⟩ n cr.length z) 31)
  have hb0 := heap_alloc_new w (.cells (ntA ⟨sna, snc, sca, scc⟩ n cr.length z) 31)
  have hH := fun w1 => has_any w1 ⟨sna, snc, sca, scc⟩ n cr.length z k
  obtain ⟨x, hx⟩ : ∃ x, x = upB n cr k := ⟨_, rfl⟩
  rw [← hx]
  by_cases h0 : 0 ≤ k ∧ k < (n : Int)
  · rw [decide_eq_true h0] at hH
    obtain ⟨j, rfl⟩ : ∃ j : Nat, k = (j : Int) := ⟨k.toNat, by omega⟩
    by_cases h1 : j < cr.length
    · obtain ⟨b, off, y, hca, hy, hcy⟩ := h.at h1
      have hxy : x = !y := by rw [hx]; unfold upB; rw [decide_eq_true h0, decide_eq_false (by omega), Int.toNat_natCast, hy]; simp
      have HX := hid hxy
      simp only at hca
      subst hca
      have hcy0 : (w.alloc (.cells (ntA ⟨sna, snc, some ⟨b, off, none⟩, scc⟩ n cr.length z) 31)).cell? ⟨b, off + j, none⟩ = some (.bool y) := (g0.cell (p := ⟨b, _, none⟩) (block_lt_of_cell hcy)).trans hcy
      generalize cr.length = m at *
      clear hx hxy hy h h0 hcy
      go_enter Tryz.func30, Tryz.ntmps30
      go_wp2_with (first | (with_reducible refine wpList_loadR rowN rfl _ rfl _ rfl hb0 rfl ?_) | (go_at_call 23; (with_reducible refine (hH _).mono ?_); rintro e w1 ⟨rfl, g1⟩; have hb1 := bx_below hb0 g1; have q1 := (bx3 hb1).2.1; have hcy1 := (g1.cell (p := ⟨b, _, none⟩) (block_lt_of_cell hcy0)).trans hcy0; have gg := bstep g0 g1))
      go_ret
      exact ⟨ret_bool (a := decide (m ≤ j) || !y) (by rw [HX.out, decide_eq_false (by omega)]; rfl), gg⟩
    · have hxy : x = true := by rw [hx]; unfold upB; rw [decide_eq_true h0, decide_eq_true (by omega)]; simp
      have HX := hid hxy
      generalize cr.length = m at *
      clear hx hxy h h0
      go_enter Tryz.func30, Tryz.ntmps30
      go_wp2_with (first | (with_reducible refine wpList_loadR rowN rfl _ rfl _ rfl hb0 rfl ?_) | (go_at_call 23; (with_reducible refine (hH _).mono ?_); rintro e w1 ⟨rfl, g1⟩; have hb1 := bx_below hb0 g1; have q1 := (bx3 hb1).2.1; have gg := bstep g0 g1))
      go_ret
      exact ⟨by rw [HX.out]; rfl, gg⟩
  · rw [decide_eq_false h0] at hH
    have hxy : x = false := by rw [hx]; unfold upB; rw [decide_eq_false h0]; simp
    have HX := hid hxy
    generalize cr.length = m at *
    clear hx hxy h h0
    go_enter Tryz.func30, Tryz.ntmps30
    go_wp2_with (first | (with_reducible refine wpList_loadR rowN rfl _ rfl _ rfl hb0 rfl ?_) | (go_at_call 23; (with_reducible refine (hH _).mono ?_); rintro e w1 ⟨rfl, g1⟩; have gg := bstep g0 g1))
    go_ret
    exact ⟨by rw [HX.out]; rfl, gg⟩

/-- Numbers in memory. -/
abbrev zv (x : Int) : Value := .int .i64 x

theorem index_any (w : World) (a : Option Addr) (n c : Nat) (l : List Int) (x : Int) (h : RL zv w a n c l) (hn : n ≤ 1000000) :
    Calls Tryz.prog 41 #[.slice a n c, .int .i64 x] w fun e w' => ∃ r : Int, e = .returned (.int .i64 r) ∧ (0 ≤ r ↔ x ∈ l) ∧ w = w' := by
  go_enter Tryz.func41, Tryz.ntmps41
  go_wp2
  go_loop [8] (fun i => ∃ k : Nat, k ≤ n ∧ i = .int .i64 k ∧ Hid (x ∉ l.take k)) (fun i => n - (intOf i).toNat)
  case atStart => exact ⟨0, Nat.zero_le _, rfl, hid (by simp)⟩
  case round =>
    obtain ⟨k, hk, rfl, hno⟩ := hrel
    by_cases hlt : k < n
    · obtain ⟨b, off, y, rfl, hx, hck⟩ := h.at hlt
      have HX := hid hx; clear hx
      by_cases hxy : x = y
      · subst hxy
        go_wp2
        go_ret
        exact ⟨k, rfl, ⟨fun _ => List.mem_of_getElem? HX.out, fun _ => by omega⟩, rfl⟩
      · go_wp2
        go_round
        case rel => exact ⟨k + 1, by omega, by go_num, hid (by rw [take_snoc HX.out]; simp [hno.out, hxy])⟩
        case measure => simp [intOf]; omega
    · have hkn : Hid (l.take k = l) := hid (List.take_of_length_le (by rw [h.len]; omega))
      go_wp2
      go_ret
      exact ⟨-1, rfl, ⟨fun e => by omega, fun e => by have := hno.out; rw [hkn.out] at this; exact absurd e this⟩, rfl⟩

theorem contains_any (w : World) (a : Option Addr) (n c : Nat) (l : List Int) (x : Int) (h : RL zv w a n c l) (hn : n ≤ 1000000) :
    Calls Tryz.prog 25 #[.slice a n c, .int .i64 x] w fun e w' => e = .returned (.bool (decide (x ∈ l))) ∧ w = w' := by
  go_enter Tryz.func25, Tryz.ntmps25
  go_wp2_with (go_at_call 41; (with_reducible refine (index_any _ _ _ _ _ _ h hn).mono ?_); rintro e w1 ⟨r, rfl, hr, rfl⟩)
  go_ret
  exact ⟨rfl, rfl⟩
end Go.Proofs.YtgpmhmdofefdcaaGreat

namespace Go.Proofs.YtgpmhmdofefdcaaGreat
open Go.RowKit Go.Sort
set_option linter.unusedVariables false

/-- No lists. -/
def na0 : Na := ⟨none, 0, none, 0⟩
abbrev ntZ : Array Value := #[.slice none 0 0, .slice none 0 0, .int .i64 0]
/-- Controllers alone. -/
def cts (ps : List Nd) : List Ct := ps.map Prod.fst
theorem cts_len (ps : List Nd) : (cts ps).length = ps.length := by unfold cts; rw [List.length_map]

theorem set_mid {α : Type} (qs : List α) (n : Nat) (z x : α) (h : qs.length < n) : (qs ++ List.replicate (n - qs.length) z).set qs.length x = (qs ++ [x]) ++ List.replicate (n - (qs.length + 1)) z := by
  have e : n - qs.length = (n - (qs.length + 1)) + 1 := by omega
  rw [List.set_append_right _ _ (Nat.le_refl _), Nat.sub_self, e, List.replicate_succ]
  simp

/-- Behind k copies. -/
structure Ap (w wr : World) (s : Na) (n : Nat) (z : Int) (gC gN : Nat) (cr : List Bool) (ps qs : List Nd) (k : Nat) : Prop where
  box : wr.heap[w.heap.size]? = some (.cells (ntA s n n z) 31 (0, 0))
  res : wr.heap[w.heap.size + 1]? = some (.cells ntZ 31 (0, 0))
  cra : OL .bool 4 (w.heap.size + 2) wr (some ⟨gC, 0, none⟩) n n cr
  nod : OK enC 26 54 (gC + 1) wr (some ⟨gN, 0, none⟩) n n (qs ++ List.replicate (n - k) (c0, sl0))
  len : qs.length = k
  eqs : cts qs = cts (ps.take k)
  sl : ∀ p ∈ qs, CtO (gN + 1) wr p.1 p.2
  bel : Below w.heap.size w wr
  lt : w.heap.size + 2 ≤ gC ∧ gC < gN ∧ gN < wr.heap.size

section
variable {w wr w1 : World} {s : Na} {n : Nat} {z : Int} {gC gN : Nat} {cr : List Bool} {ps qs : List Nd} {k : Nat}
theorem Ap.call (h : Ap w wr s n z gC gN cr ps qs k) (g : Below wr.heap.size wr w1) : Ap w w1 s n z gC gN cr ps qs k :=
  ⟨bx_below h.box g, bx_below h.res g, h.cra.below g, h.nod.below g, h.len, h.eqs, fun p hp => (h.sl p hp).below g, bstep h.bel g, h.lt.1, h.lt.2.1, Nat.lt_of_lt_of_le h.lt.2.2 g.size⟩

theorem Ap.put (h : Ap w wr s n z gC gN cr ps qs k) (hk : k < n) (hn : ps.length = n) {c : Ct} {s0 s1 : Sl} (hx : ps[k]? = some (c, s0)) (ho : CtO (gN + 1) wr c s1)
    (hp : OK enC 26 54 (gC + 1) w1 (some ⟨gN, 0, none⟩) n n ((qs ++ List.replicate (n - k) (c0, sl0)).set k (c, s1))) (hw : Wr gN wr w1) (hs : w1.heap.size = wr.heap.size) : Ap w w1 s n z gC gN cr ps (qs ++ [(c, s1)]) (k + 1) := by
  obtain ⟨l1, l2, l3⟩ := h.lt
  have key : ∀ q, q < wr.heap.size → q ≠ gN → w1.heap[q]? = wr.heap[q]? := hw.block
  have kept : ∀ {c : Ct} {s : Sl}, CtO (gN + 1) wr c s → CtO (gN + 1) w1 c s := fun {c s} h' => h'.kept fun q => by
    by_cases e : q = gN
    · subst e; exact .inl (h'.nbs (by omega))
    · by_cases hq : q < wr.heap.size
      · exact .inr (key q hq e)
      · exact .inl (h'.fresh (by omega))
  have hl := h.len
  subst hl
  refine ⟨by rw [key _ (by have := h.box; exact bx_lt this) (by omega)]; exact h.box, by rw [key _ (bx_lt h.res) (by omega)]; exact h.res,
    h.cra.kept fun q hq => key q (by have := (h.cra.ltB hq).1; exact this) (by cases hq; omega), ?_, by simp, ?_, ?_, hw.below h.bel (by omega) l3, l1, l2, by omega⟩
  · rw [set_mid qs n (c0, sl0) (c, s1) hk] at hp
    exact hp
  · unfold cts
    rw [take_snoc hx, List.map_append, List.map_append]
    have := h.eqs
    unfold cts at this
    rw [this]; rfl
  · intro p hp2
    rw [List.mem_append, List.mem_singleton] at hp2
    rcases hp2 with hp2 | rfl
    · exact kept (h.sl p hp2)
    · exact kept ho
end

/-- What a copy asks of a controller: its lists are no longer than this. -/
def Shr (c : Ct) : Prop := c.give.data.length ≤ 1000000 ∧ c.wire.length ≤ 1000000 ∧ c.tk.l.length ≤ 1000000

set_option maxRecDepth 100000 in
set_option maxHeartbeats 4000000 in
theorem netApart_any (w : World) (s : Na) (ps : List Nd) (cr : List Bool) (n : Nat) (z : Int) (h : NtR w s ps cr) (hn : ps.length = n) (hm : cr.length = n) (hle : n ≤ 100000) (hS : ∀ p ∈ ps, Shr p.1) :
    Calls Tryz.prog 26 #[.agg (ntA s n n z)] w fun e w' => ∃ s', e = .returned (.agg (ntA s' n n z)) ∧ ∃ qs, qs.length = n ∧ cts qs = cts ps ∧ NtO w.heap.size w' s' qs cr ∧ Below w.heap.size w w' := by
  obtain ⟨sna, snc, sca, scc⟩ := s
  have hN := h.nod
  have hC := h.cra
  have hL := h.sl
  rw [hn] at hN
  rw [hm] at hC
  clear h
  simp only at hN hC
  have hb0 : ((w.alloc (.cells (ntA ⟨sna, snc, sca, scc⟩ n n z) 31)).alloc (.cells ntZ 31)).heap[w.heap.size]? = some (.cells (ntA ⟨sna, snc, sca, scc⟩ n n z) 31 (0, 0)) := bx_alloc _ (heap_alloc_new w _)
  have hr0 : ((w.alloc (.cells (ntA ⟨sna, snc, sca, scc⟩ n n z) 31)).alloc (.cells ntZ 31)).heap[w.heap.size + 1]? = some (.cells ntZ 31 (0, 0)) := by
    have := heap_alloc_new (w.alloc (.cells (ntA ⟨sna, snc, sca, scc⟩ n n z) 31)) (.cells ntZ 31); rwa [heap_size_alloc] at this
  have g0 : Below w.heap.size w ((w.alloc (.cells (ntA ⟨sna, snc, sca, scc⟩ n n z) 31)).alloc (.cells ntZ 31)) := bnew (bnew0 w _) _
  have z0 : ((w.alloc (.cells (ntA ⟨sna, snc, sca, scc⟩ n n z) 31)).alloc (.cells ntZ 31)).heap.size = w.heap.size + 2 := by simp
  have q0 := (bx3 hb0).1
  go_enter Tryz.func26, Tryz.ntmps26
  go_wp2_with (first
    | (at_make; refine wpList_mk (f := Value.bool) (n := n) tB false rfl rfl _ _ rfl _ _ _ _ rfl rfl rfl rfl (by omega) (by omega) ?_; intro w1 ho1 hb1 hs1
       have hbx1 := bx_below hb0 hb1
       have hr1 := bx_below hr0 hb1
       have gg1 := bstep g0 hb1
       have q1 := (bx3 hbx1).2.1
       rw [z0] at ho1 hs1)
    | (with_reducible refine wpList_cp (f := Value.bool) (n := n) tB rfl _ _ rfl rfl rfl ho1 (hC.below gg1) (fun _ => rfl) ?_; intro w2 ho2 hb2
       have hbx2 : w2.heap[w.heap.size]? = _ := (hb2.block _ (by omega)).trans hbx1
       have hr2 : w2.heap[w.heap.size + 1]? = _ := (hb2.block _ (by omega)).trans hr1
       have gg2 : Below w.heap.size w w2 := gg1.trans (hb2.mono (by omega))
       have hs2 : w.heap.size + 3 ≤ w2.heap.size := Nat.le_trans (Nat.le_of_eq hs1.symm) hb2.size
       have q2 := (bx3 hbx2).1)
    | (at_make; refine wpList_mkK (n := n) elC enC_k (c0, sl0) rfl rfl _ _ rfl _ _ _ _ rfl rfl rfl rfl (by omega) (by omega) ?_; intro w3 ho3 hb3 hs3
       have hbx3 := bx_below hbx2 hb3
       have hr3 := bx_below hr2 hb3
       have gg3 := bstep gg2 hb3
       have hc3 := ho2.below hb3
       have q3 := (bx3 hbx3).1))
  have A0 : Ap w w3 ⟨sna, snc, sca, scc⟩ n z (w.heap.size + 2) w2.heap.size cr ps [] 0 :=
    ⟨hbx3, hr3, hc3, by
      have := ho3.mono hs2
      exact this, rfl, rfl, fun p hp => (by cases hp), gg3, Nat.le_refl _, by omega, by omega⟩
  clear hbx3 hr3 hc3 gg3 ho3 hb3 hs3 q3 q2 q1 gg2 gg1 hr2 hr1 hbx1 hbx2 ho2 ho1 hb1 hs1 hb2 q0 z0 g0 hr0 hb0
  obtain ⟨gN, hgN⟩ : ∃ gN, gN = w2.heap.size := ⟨_, rfl⟩
  rw [← hgN] at A0 ⊢
  clear hgN hs2
  go_loopg [22] n (fun gn i wr => ∃ (k : Nat) (qs : List Nd), k ≤ n ∧ gn = n - k ∧ i = .int .i64 (k : Int) ∧ Ap w wr ⟨sna, snc, sca, scc⟩ n z (w.heap.size + 2) gN cr ps qs k)
  case atStart => exact ⟨0, [], by omega, rfl, rfl, A0⟩
  case round =>
    clear A0
    obtain ⟨k, qs, hk, rfl, rfl, hA⟩ := hrel
    by_cases hlt : k < n
    · obtain ⟨⟨c, s0⟩, hx⟩ : ∃ x, ps[k]? = some x := ⟨ps[k]'(by omega), by simp [hn, hlt]⟩
      have hmem : (c, s0) ∈ ps := List.mem_of_getElem? hx
      obtain ⟨b, off, hab, hbl, hr⟩ := hN.range hx
      have hr1 : wr.rangeAt b (off + k * 26) (ctA c s0).toList := fun j v hv => (hA.bel.cell (p := ⟨b, _, none⟩) hbl).trans (hr j v hv)
      have hcl := apart_any
      have hR : CtR wr c s0 := (hL _ hmem).below hA.bel
      obtain ⟨d1, d2, d3⟩ := hS _ hmem
      simp only at d1 d2 d3
      have hz1 := heap_alloc_new wr (.cells ctZ 54)
      have hW1 : Below wr.heap.size wr ((wr.alloc (.cells ctZ 54)).setRow wr.heap.size (ctA c s0)) := below_setRow (bnew0 wr _) (Nat.le_refl _) _
      have hb2 : ((wr.alloc (.cells ctZ 54)).setRow wr.heap.size (ctA c s0)).heap[wr.heap.size]? = some (.cells (ctA c s0) 54 (0, 0)) := setRow_heap _ _ _ _ _ _ hz1
      have hA2 := hA.call hW1
      have hR2 := hR.below hW1
      subst hab
      clear hr hbl hR hA hcl
      have HX := hid hx
      clear hx hmem
      go_wp2_with (first
        | (with_reducible refine wpList_loadM rowC rfl _ rfl b (off + k * 26) rfl (ctA c s0) hr1 rfl ?_)
        | (with_reducible refine wpList_storeR rowC rfl _ _ rfl _ _ rfl rfl hz1 rfl rfl (ct_ones _ _) ?_)
        | (with_reducible refine wpList_loadR rowC rfl _ rfl _ rfl hb2 rfl ?_)
        | (go_at_call 42; (with_reducible refine (apart_any _ c s0 hR2 d1 d2 d3).mono ?_); rintro e w4 ⟨s4, rfl, o4, g4⟩
           have hA4 := hA2.call g4
           have l4 := hA2.lt
           have hnod4 := hA4.nod)
        | (with_reducible refine wpList_putM enC_k rowC rfl _ _ rfl hnod4 k hlt (c, s4) (ctA c s4) rfl rfl rfl (ct_ones _ _) ?_; intro w5 o5 y5 z5))
      have A5 := hA4.put hlt hn HX.out (o4.mono l4.2.2) o5 y5 z5
      clear hA2 hA4 o4 g4 o5 y5 z5 hnod4 hz1 hW1 hb2 hr1 hR2 d1 d2 d3
      go_roundg (n - (k + 1))
      case measure => go_light; omega
      case rel => go_light; exact ⟨k + 1, _, by omega, rfl, by go_num, A5⟩
    · obtain rfl : k = n := by omega
      have hqs : qs.length = k := hA.len
      have heq : cts qs = cts ps := by have := hA.eqs; rwa [List.take_of_length_le (by omega)] at this
      have hnod := hA.nod
      rw [Nat.sub_self, List.replicate_zero, List.append_nil] at hnod
      obtain ⟨l1, l2, l3⟩ := hA.lt
      have q0 := (bx3 hA.box).1
      have q1 := (bx3 hA.box).2.1
      have f0 := bx_thaw hA.box
      have hb6 : ((wr.setCell ⟨w.heap.size, 0, none⟩ (.slice (some ⟨gN, 0, none⟩) k k)).setCell ⟨w.heap.size, 1, none⟩ (.slice (some ⟨w.heap.size + 2, 0, none⟩) k k)).heap[w.heap.size]? = some (.cells (ntA ⟨some ⟨gN, 0, none⟩, k, some ⟨w.heap.size + 2, 0, none⟩, k⟩ k k z) 31 (0, 0)) :=
        heap_setCell_same _ _ 1 _ _ _ (heap_setCell_same _ _ 0 _ _ _ hA.box)
      have hk6 : ∀ q, q ≠ w.heap.size → ((wr.setCell ⟨w.heap.size, 0, none⟩ (.slice (some ⟨gN, 0, none⟩) k k)).setCell ⟨w.heap.size, 1, none⟩ (.slice (some ⟨w.heap.size + 2, 0, none⟩) k k)).heap[q]? = wr.heap[q]? := fun q hq => by
        rw [heap_setCell_other _ _ _ _ hq, heap_setCell_other _ _ _ _ hq]
      have hr6 := (hk6 (w.heap.size + 1) (by omega)).trans hA.res
      have g6 : Below w.heap.size w ((wr.setCell ⟨w.heap.size, 0, none⟩ (.slice (some ⟨gN, 0, none⟩) k k)).setCell ⟨w.heap.size, 1, none⟩ (.slice (some ⟨w.heap.size + 2, 0, none⟩) k k)) := (hA.bel.setCell (Nat.le_refl _) _).setCell (Nat.le_refl _) _
      have hsl := hA.sl
      have hcra := hA.cra
      clear hA hN hC hL hS
      go_wp2_with (first
        | (with_reducible refine wpList_loadR rowN rfl _ rfl _ rfl hb6 rfl ?_)
        | (with_reducible refine wpList_storeR rowN rfl _ _ rfl _ _ rfl rfl hr6 rfl rfl (nt_ones _ _ _ _) ?_))
      have hk7 : ∀ q, q ≠ w.heap.size → q ≠ w.heap.size + 1 → (((wr.setCell ⟨w.heap.size, 0, none⟩ (.slice (some ⟨gN, 0, none⟩) k k)).setCell ⟨w.heap.size, 1, none⟩ (.slice (some ⟨w.heap.size + 2, 0, none⟩) k k)).setRow (w.heap.size + 1) (ntA ⟨some ⟨gN, 0, none⟩, k, some ⟨w.heap.size + 2, 0, none⟩, k⟩ k k z)).heap[q]? = wr.heap[q]? := fun q h1 h2 => (setRow_other _ _ _ _ h2).trans (hk6 q h1)
      have g7 : Below w.heap.size w (((wr.setCell ⟨w.heap.size, 0, none⟩ (.slice (some ⟨gN, 0, none⟩) k k)).setCell ⟨w.heap.size, 1, none⟩ (.slice (some ⟨w.heap.size + 2, 0, none⟩) k k)).setRow (w.heap.size + 1) (ntA ⟨some ⟨gN, 0, none⟩, k, some ⟨w.heap.size + 2, 0, none⟩, k⟩ k k z)) := below_setRow g6 (by omega) _
      have hr7 : (((wr.setCell ⟨w.heap.size, 0, none⟩ (.slice (some ⟨gN, 0, none⟩) k k)).setCell ⟨w.heap.size, 1, none⟩ (.slice (some ⟨w.heap.size + 2, 0, none⟩) k k)).setRow (w.heap.size + 1) (ntA ⟨some ⟨gN, 0, none⟩, k, some ⟨w.heap.size + 2, 0, none⟩, k⟩ k k z)).heap[w.heap.size + 1]? = some (.cells (ntA ⟨some ⟨gN, 0, none⟩, k, some ⟨w.heap.size + 2, 0, none⟩, k⟩ k k z) 31 (0, 0)) := setRow_heap _ _ _ _ _ _ hr6
      refine bodyPost_ret (v := .agg (ntA ⟨some ⟨gN, 0, none⟩, k, some ⟨w.heap.size + 2, 0, none⟩, k⟩ k k z)) (results_row rowN rfl _ _ _ rfl hr7 rfl) rfl ⟨_, rfl, qs, hqs, heq, ⟨?_, ?_, ?_, ?_, ?_⟩, g7⟩
      · rw [hqs]
        refine (hnod.mono (show w.heap.size ≤ w.heap.size + 2 + 1 by omega)).kept fun q hq => hk7 q ?_ ?_
        · cases hq; omega
        · cases hq; omega
      · rw [hm]
        refine (hcra.mono (show w.heap.size ≤ w.heap.size + 2 by omega)).kept fun q hq => hk7 q ?_ ?_
        · cases hq; simp
        · cases hq; simp
      · intro p hp
        exact ((hsl p hp).kept fun q => by
          by_cases e1 : q = w.heap.size
          · exact .inl ((hsl p hp).nbs (by omega))
          · by_cases e2 : q = w.heap.size + 1
            · exact .inl ((hsl p hp).nbs (by omega))
            · exact .inr (hk7 q e1 e2)).mono (by omega)
      · intro g hg
        cases hg
        exact ⟨fun p hp => (hsl p hp).nbs (by omega), fun q hq e => by cases hq; simp at e; omega⟩
      · intro g hg
        cases hg
        exact ⟨fun p hp => (hsl p hp).nbs (by omega), fun q hq e => by cases hq; simp at e; omega⟩
end Go.Proofs.YtgpmhmdofefdcaaGreat

namespace Go.Proofs.YtgpmhmdofefdcaaGreat
open Go.RowKit Go.Sort
set_option linter.unusedVariables false

/-- What each node drives: those that are crashed recessive. -/
def dvL (cs : List Ct) (cr : List Bool) : List Bool := List.zipWith (fun c x => x || dvC c) cs cr

theorem dvL_at {cs : List Ct} {cr : List Bool} {k : Nat} {c : Ct} {x : Bool} (h : cs[k]? = some c) (h2 : cr[k]? = some x) : (dvL cs cr)[k]? = some (x || dvC c) := by
  unfold dvL
  rw [List.getElem?_zipWith, h, h2]
theorem dvL_len {cs : List Ct} {cr : List Bool} (h : cr.length = cs.length) : (dvL cs cr).length = cs.length := by
  unfold dvL; rw [List.length_zipWith, h, Nat.min_self]
theorem cts_at {ps : List Nd} {k : Nat} {p : Nd} (h : ps[k]? = some p) : (cts ps)[k]? = some p.1 := by
  unfold cts; rw [List.getElem?_map, h]; rfl

/-- Behind k nodes. -/
structure Dr (w wr : World) (s : Na) (n : Nat) (z : Int) (ps : List Nd) (cr : List Bool) (k : Nat) (a : Option Addr) (c : Nat) : Prop where
  box : wr.heap[w.heap.size]? = some (.cells (ntA s n n z) 31 (0, 0))
  out : OL .bool 4 (w.heap.size + 1) wr a k c ((dvL (cts ps) cr).take k)
  bel : Below w.heap.size w wr

section
variable {w wr w1 : World} {s : Na} {n : Nat} {z : Int} {ps : List Nd} {cr : List Bool} {k : Nat} {a : Option Addr} {c : Nat}
theorem Dr.call (h : Dr w wr s n z ps cr k a c) (g : Below wr.heap.size wr w1) : Dr w w1 s n z ps cr k a c := ⟨bx_below h.box g, h.out.below g, bstep h.bel g⟩
theorem Dr.app {a6 : Option Addr} {c6 : Nat} (h : Dr w wr s n z ps cr k a c) (o : Obj) (h6 : OL .bool 4 (w.heap.size + 1) w1 a6 (k + 1) c6 ((dvL (cts ps) cr).take (k + 1))) (b6 : Below (w.heap.size + 1) (wr.alloc o) w1) : Dr w w1 s n z ps cr (k + 1) a6 c6 :=
  ⟨(b6.block _ (by omega)).trans (bx_alloc o h.box), h6, (bnew h.bel o).trans (b6.mono (by omega))⟩
theorem Dr.size (h : Dr w wr s n z ps cr k a c) : w.heap.size + 1 ≤ wr.heap.size := bx_lt h.box
end

set_option maxRecDepth 100000 in
set_option maxHeartbeats 4000000 in
theorem drives_any (w : World) (s : Na) (ps : List Nd) (cr : List Bool) (n : Nat) (z : Int) (h : NtR w s ps cr) (hn : ps.length = n) (hm : cr.length = n) (hle : n ≤ 100000) (hS : ∀ p ∈ ps, StepOK p.1) :
    Calls Tryz.prog 27 #[.agg (ntA s n n z)] w fun e w' => ∃ a c, e = .returned (.slice a n c) ∧ OL .bool 4 w.heap.size w' a n c (dvL (cts ps) cr) ∧ Below w.heap.size w w' := by
  obtain ⟨sna, snc, sca, scc⟩ := s
  have hN := h.nod
  have hC := h.cra
  have hL := h.sl
  rw [hn] at hN
  rw [hm] at hC
  clear h
  simp only at hN hC
  have hb0 := heap_alloc_new w (.cells (ntA ⟨sna, snc, sca, scc⟩ n n z) 31)
  have g0 : Below w.heap.size w (w.alloc (.cells (ntA ⟨sna, snc, sca, scc⟩ n n z) 31)) := bnew0 w _
  have q0 := (bx3 hb0).1
  have D0 : Dr w (w.alloc (.cells (ntA ⟨sna, snc, sca, scc⟩ n n z) 31)) ⟨sna, snc, sca, scc⟩ n z ps cr 0 none 0 := ⟨hb0, OL.nil _ _ _ _, g0⟩
  have hcl : (cts ps).length = n := by rw [cts_len, hn]
  have hdl : Hid ((dvL (cts ps) cr).length = n) := hid (by rw [dvL_len (by rw [hcl, hm]), hcl])
  go_enter Tryz.func27, Tryz.ntmps27
  go_wp2
  clear hb0 g0 q0
  go_loopg [3, 9] n (fun gn v i wr => ∃ (k : Nat) (a : Option Addr) (c : Nat), k ≤ n ∧ gn = n - k ∧ v = .slice a k c ∧ i = .int .i64 (k : Int) ∧ Dr w wr ⟨sna, snc, sca, scc⟩ n z ps cr k a c)
  case atStart => exact ⟨0, none, 0, by omega, rfl, rfl, rfl, D0⟩
  case round =>
    clear D0
    obtain ⟨k, ao, co, hk, rfl, rfl, rfl, hD⟩ := hrel
    by_cases hlt : k < n
    · obtain ⟨⟨c, s0⟩, hx⟩ : ∃ x, ps[k]? = some x := ⟨ps[k]'(by omega), by simp [hn, hlt]⟩
      have hmem : (c, s0) ∈ ps := List.mem_of_getElem? hx
      obtain ⟨b, off, hab, hbl, hr⟩ := hN.range hx
      have hr1 : wr.rangeAt b (off + k * 26) (ctA c s0).toList := fun j v hv => (hD.bel.cell (p := ⟨b, _, none⟩) hbl).trans (hr j v hv)
      obtain ⟨b2, off2, x, hab2, hx2, hc2⟩ := hC.at hlt
      have hR : CtR wr c s0 := (hL _ hmem).below hD.bel
      have hok : StepOK c := hS _ hmem
      have hz1 := heap_alloc_new wr (.cells ctZ 54)
      have hW1 : Below wr.heap.size wr ((wr.alloc (.cells ctZ 54)).setRow wr.heap.size (ctA c s0)) := below_setRow (bnew0 wr _) (Nat.le_refl _) _
      have hb2 : ((wr.alloc (.cells ctZ 54)).setRow wr.heap.size (ctA c s0)).heap[wr.heap.size]? = some (.cells (ctA c s0) 54 (0, 0)) := setRow_heap _ _ _ _ _ _ hz1
      have hD2 := hD.call hW1
      have hR2 := hR.below hW1
      have hc22 : ((wr.alloc (.cells ctZ 54)).setRow wr.heap.size (ctA c s0)).cell? ⟨b2, off2 + k, none⟩ = some (.bool x) := (hD2.bel.cell (p := ⟨b2, _, none⟩) (block_lt_of_cell hc2)).trans hc2
      have q1 := (bx3 hD2.box).2.1
      have HV : Hid ((dvL (cts ps) cr)[k]? = some (x || dvC c)) := hid (dvL_at (cts_at hx) hx2)
      have hDv := drive_any _ c s0 hR2 hok.ph (fun e1 e2 => (hok.sn e1 e2).1)
      subst hab hab2
      clear hr hbl hR hD hx hx2 hc2 hmem hok hR2
      have HW := hid (rfl : ((wr.alloc (.cells ctZ 54)).setRow wr.heap.size (ctA c s0)) = ((wr.alloc (.cells ctZ 54)).setRow wr.heap.size (ctA c s0)))
      go_upto_region 5 with (first
        | (with_reducible refine wpList_loadM rowC rfl _ rfl b (off + k * 26) rfl (ctA c s0) hr1 rfl ?_)
        | (with_reducible refine wpList_storeR rowC rfl _ _ rfl _ _ rfl rfl hz1 rfl rfl (ct_ones _ _) ?_))
      generalize (wr.alloc (.cells ctZ 54)).setRow wr.heap.size (ctA c s0) = w2 at *
      clear hz1 hW1 hr1
      have ls := hD2.size
      cases x with
      | true =>
        go_wp2_with (at_builtin; refine wpList_app (f := Value.bool) tB rfl _ _ rfl rfl (hD2.out.alloc _) rfl (ol_lit Value.bool 4 (w.heap.size + 1) w2 [true] _ 1 rfl rfl (by omega) (by omega)).rl (fun _ => rfl) (by omega) (by omega) (by simp; omega) ?_; intro w6 a6 c6 o6 b6)
        have D6 := hD2.app (a6 := a6) (c6 := c6) _ (by rw [take_snoc HV.out]; exact o6) b6
        clear hD2 o6 b6 hb2 hc22 q1 hDv
        go_roundg (n - (k + 1))
        case measure => go_light; omega
        case rel => go_light; exact ⟨k + 1, _, _, by omega, rfl, rfl, by go_num, D6⟩
      | false =>
        go_wp2_with (first
          | (with_reducible refine wpList_loadW rowC (by simp [Region.wanted, yielded, Act.put]) _ rfl _ rfl hb2 rfl ?_)
          | (go_at_call 43; (with_reducible refine hDv.mono ?_); rintro e w4 ⟨rfl, g4⟩; have hD4 := hD2.call g4; have l4 := hD4.size)
          | (at_builtin; refine wpList_app (f := Value.bool) tB rfl _ _ rfl rfl (hD4.out.alloc _) rfl (ol_lit Value.bool 4 (w.heap.size + 1) w4 [dvC c] _ 1 rfl rfl (by omega) (by omega)).rl (fun _ => rfl) (by omega) (by omega) (by simp; omega) ?_; intro w6 a6 c6 o6 b6))
        have D6 := hD4.app (a6 := a6) (c6 := c6) _ (by rw [take_snoc HV.out]; exact o6) b6
        clear hD2 o6 b6 hb2 hc22 q1 hDv g4 hD4
        go_roundg (n - (k + 1))
        case measure => go_light; omega
        case rel => go_light; exact ⟨k + 1, _, _, by omega, rfl, rfl, by go_num, D6⟩
    · obtain rfl : k = n := by omega
      have hO := hD.out
      rw [List.take_of_length_le (by rw [hdl.out]; omega)] at hO
      have hB := hD.bel
      clear hD hN hC hL hS
      go_wp2
      go_ret
      exact ⟨ao, co, rfl, hO.mono (by omega), hB⟩
end Go.Proofs.YtgpmhmdofefdcaaGreat

namespace Go.Proofs.YtgpmhmdofefdcaaGreat
open Go.RowKit Go.Sort
set_option linter.unusedVariables false

theorem step1_any (w : World) (g : Nat) (s : Na) (n m : Nat) (z x : Int) (hb : w.heap[g]? = some (.cells (ntA s n m z) 31 (0, 0))) (hx : 0 ≤ x ∧ x < (n : Int)) :
    Calls Tryz.prog 22 #[.int .i64 x, .pointer (some ⟨g, 0, none⟩)] w fun e w' => e = .returned (.bool false) ∧ Below w.heap.size w w' := by
  have hH := fun w1 => has_any w1 s n m z x
  rw [decide_eq_true hx] at hH
  clear hx
  go_enter Tryz.func22, Tryz.ntmps22
  go_wp2_with (first
    | (with_reducible refine wpList_loadR rowN rfl _ rfl _ rfl hb rfl ?_)
    | (go_at_call 23; (with_reducible refine (hH _).mono ?_); rintro e w1 ⟨rfl, g1⟩))
  go_ret
  exact ⟨rfl, g1⟩

theorem step2_any (w : World) (g : Nat) (a : Option Addr) (n c : Nat) (l : List Int) (x : Int) (t : TypeId) (hb : w.heap[g]? = some (.cells #[.slice a n c] t (0, 0))) (h : RL zv w a n c l) (hn : n ≤ 1000000) :
    Calls Tryz.prog 24 #[.int .i64 x, .pointer (some ⟨g, 0, none⟩)] w fun e w' => e = .returned (.bool (decide (x ∈ l))) ∧ w = w' := by
  have q0 : w.cell? ⟨g, 0, none⟩ = some (.slice a n c) := by rw [cell_of_row w g 0 _ _ _ hb]; rfl
  go_enter Tryz.func24, Tryz.ntmps24
  go_wp2_with (go_at_call 25; (with_reducible refine (contains_any _ _ _ _ _ _ h hn).mono ?_); rintro e w1 ⟨rfl, rfl⟩)
  go_ret
  exact ⟨rfl, rfl⟩

theorem indexFunc_good (w : World) (g : Nat) (s : Na) (nn m : Nat) (z : Int) (hb : w.heap[g]? = some (.cells (ntA s nn m z) 31 (0, 0))) (a : Option Addr) (n c : Nat) (l : List Int) (h : RL zv w a n c l) (hn : n ≤ 1000000) (hl : ∀ x ∈ l, 0 ≤ x ∧ x < (nn : Int)) :
    Calls Tryz.prog 40 #[.slice a n c, .func (.func 22) #[] #[.pointer (some ⟨g, 0, none⟩)]] w fun e w' => e = .returned (.int .i64 (-1)) ∧ Below w.heap.size w w' := by
  go_enter Tryz.func40, Tryz.ntmps40
  go_wp2
  go_loopg [8] n (fun gn i wr => ∃ k : Nat, k ≤ n ∧ gn = n - k ∧ i = .int .i64 (k : Int) ∧ Below w.heap.size w wr)
  case atStart => exact ⟨0, Nat.zero_le _, rfl, rfl, Below.refl _ _⟩
  case round =>
    obtain ⟨k, hk, rfl, rfl, hB⟩ := hrel
    by_cases hlt : k < n
    · obtain ⟨b, off, y, rfl, hx, hck⟩ := (h.below hB).at hlt
      have hy := hl y (List.mem_of_getElem? hx)
      have hS := step1_any wr g s nn m z y (bx_below hb hB) hy
      clear hx hy
      go_wp2_with (go_at_call 22; (with_reducible refine hS.mono ?_); rintro e w1 ⟨rfl, g1⟩; have gg := bstep hB g1)
      go_roundg (n - (k + 1))
      case measure => go_light; omega
      case rel => go_light; exact ⟨k + 1, by omega, rfl, by go_num, gg⟩
    · go_wp2
      go_ret
      exact ⟨rfl, hB⟩

theorem containsFunc_good (w : World) (g : Nat) (s : Na) (nn m : Nat) (z : Int) (hb : w.heap[g]? = some (.cells (ntA s nn m z) 31 (0, 0))) (a : Option Addr) (n c : Nat) (l : List Int) (h : RL zv w a n c l) (hn : n ≤ 1000000) (hl : ∀ x ∈ l, 0 ≤ x ∧ x < (nn : Int)) :
    Calls Tryz.prog 21 #[.slice a n c, .func (.func 22) #[] #[.pointer (some ⟨g, 0, none⟩)]] w fun e w' => e = .returned (.bool false) ∧ Below w.heap.size w w' := by
  go_enter Tryz.func21, Tryz.ntmps21
  go_wp2_with (go_at_call 40; (with_reducible refine (indexFunc_good _ g s nn m z hb _ _ _ l h hn hl).mono ?_); rintro e w1 ⟨rfl, g1⟩)
  go_ret
  exact ⟨rfl, g1⟩
end Go.Proofs.YtgpmhmdofefdcaaGreat

namespace Go.Proofs.YtgpmhmdofefdcaaGreat
open Go.RowKit Go.Sort
set_option linter.unusedVariables false

theorem cts_set (ps : List Nd) (k : Nat) (c : Ct) (s : Sl) : cts (ps.set k (c, s)) = (cts ps).set k c := by
  unfold cts; rw [List.map_set]

set_option maxRecDepth 100000 in
set_option maxHeartbeats 4000000 in
theorem with_any (w : World) (B : Nat) (s : Na) (ps : List Nd) (cr : List Bool) (n : Nat) (z : Int) (k : Nat) (c : Ct) (s1 : Sl) (h : NtR w s ps cr) (hn : ps.length = n) (hm : cr.length = n) (hle : n ≤ 100000) (hS : ∀ p ∈ ps, Shr p.1) (hk : k < n) (hc : CtO B w c s1) (hB : B ≤ w.heap.size) :
    Calls Tryz.prog 32 #[.agg (ntA s n n z), .int .i64 (k : Int), .agg (ctA c s1)] w fun e w' => ∃ s', e = .returned (.agg (ntA s' n n z)) ∧ ∃ qs, qs.length = n ∧ cts qs = (cts ps).set k c ∧ NtO B w' s' qs cr ∧ Below w.heap.size w w' := by
  have hb0 : (((w.alloc (.cells (ntA s n n z) 31)).alloc (.cells (ctA c s1) 54)).alloc (.cells ntZ 31)).heap[w.heap.size]? = some (.cells (ntA s n n z) 31 (0, 0)) := bx_alloc _ (bx_alloc _ (heap_alloc_new w _))
  have hc0 : (((w.alloc (.cells (ntA s n n z) 31)).alloc (.cells (ctA c s1) 54)).alloc (.cells ntZ 31)).heap[w.heap.size + 1]? = some (.cells (ctA c s1) 54 (0, 0)) := by
    have := bx_alloc (.cells ntZ 31) (heap_alloc_new (w.alloc (.cells (ntA s n n z) 31)) (.cells (ctA c s1) 54)); rwa [heap_size_alloc] at this
  have hr0 : (((w.alloc (.cells (ntA s n n z) 31)).alloc (.cells (ctA c s1) 54)).alloc (.cells ntZ 31)).heap[w.heap.size + 2]? = some (.cells ntZ 31 (0, 0)) := by
    have := heap_alloc_new ((w.alloc (.cells (ntA s n n z) 31)).alloc (.cells (ctA c s1) 54)) (.cells ntZ 31); rwa [heap_size_alloc, heap_size_alloc] at this
  have g0 : Below w.heap.size w (((w.alloc (.cells (ntA s n n z) 31)).alloc (.cells (ctA c s1) 54)).alloc (.cells ntZ 31)) := bnew (bnew (bnew0 w _) _) _
  have h0 := h.below g0
  have hA := netApart_any _ s ps cr n z h0 hn hm hle hS
  clear h h0 hS
  go_enter Tryz.func32, Tryz.ntmps32
  go_wp2_with (first
    | (with_reducible refine wpList_loadR rowN rfl _ rfl _ rfl hb0 rfl ?_)
    | (go_at_call 26; (with_reducible refine hA.mono ?_); rintro e w1 ⟨s2, rfl, qs, hq1, hq2, o1, g1⟩
       have hb1 := bx_below hb0 g1
       have hc1 := bx_below hc0 g1
       have hr1 := bx_below hr0 g1
       have gg1 := bstep g0 g1
       obtain ⟨g, hg, hgB, hgl⟩ := o1.nod.addr (by omega)
       have hnd := o1.nod
       rw [hg, hq1] at hnd
       have hsn := o1.sn g hg
       have hb2 : (w1.setRow w.heap.size (ntA s2 n n z)).heap[w.heap.size]? = some (.cells (ntA s2 n n z) 31 (0, 0)) := setRow_heap _ _ _ _ _ _ hb1
       have hk2 : ∀ q, q ≠ w.heap.size → (w1.setRow w.heap.size (ntA s2 n n z)).heap[q]? = w1.heap[q]? := fun q hq => setRow_other _ _ _ _ hq
       have hc2 := (hk2 (w.heap.size + 1) (by omega)).trans hc1
       have hnd2 := hnd.kept (w' := w1.setRow w.heap.size (ntA s2 n n z)) fun q hq => hk2 q (by cases hq; simp at hgB; omega)
       obtain ⟨s2a, s2b, s2c, s2d⟩ := s2
       simp only at hg
       subst hg
       have q2 := (bx3 hb2).1)
    | (with_reducible refine wpList_storeR rowN rfl _ _ rfl _ _ rfl rfl hb1 rfl rfl (nt_ones _ _ _ _) ?_)
    | (with_reducible refine wpList_loadR rowC rfl _ rfl _ rfl hc2 rfl ?_)
    | (with_reducible refine wpList_putM enC_k rowC rfl _ _ rfl hnd2 k hk (c, s1) (ctA c s1) rfl rfl rfl (ct_ones _ _) ?_; intro w5 o5 y5 z5
       have hlt1 := bx_lt hr1
       have hb5 := (y5.block w.heap.size (by simp; omega) (by simp at hgB; omega)).trans hb2
       have hr5 := (y5.block (w.heap.size + 2) (by simp; omega) (by simp at hgB; omega)).trans ((hk2 (w.heap.size + 2) (by omega)).trans hr1))
    | (with_reducible refine wpList_loadR rowN rfl _ rfl _ rfl hb5 rfl ?_)
    | (with_reducible refine wpList_storeR rowN rfl _ _ rfl _ _ rfl rfl hr5 rfl rfl (nt_ones _ _ _ _) ?_))
  have z0 : (((w.alloc (.cells (ntA s n n z) 31)).alloc (.cells (ctA c s1) 54)).alloc (.cells ntZ 31)).heap.size = w.heap.size + 3 := by simp
  rw [z0] at o1 hgB o5
  have hX : ∀ q, q < w1.heap.size → q ≠ w.heap.size → q ≠ g → q ≠ w.heap.size + 2 → (w5.setRow (w.heap.size + 2) (ntA ⟨some ⟨g, 0, none⟩, s2b, s2c, s2d⟩ n n z)).heap[q]? = w1.heap[q]? := fun q h1 h2 h3 h4 =>
    (setRow_other _ _ _ _ h4).trans ((y5.block q (by simp; omega) h3).trans (hk2 q h2))
  have hWr : (w5.setRow (w.heap.size + 2) (ntA ⟨some ⟨g, 0, none⟩, s2b, s2c, s2d⟩ n n z)).heap[w.heap.size + 2]? = some (.cells (ntA ⟨some ⟨g, 0, none⟩, s2b, s2c, s2d⟩ n n z) 31 (0, 0)) := setRow_heap _ _ _ _ _ _ hr5
  have gW : Below w.heap.size w (w5.setRow (w.heap.size + 2) (ntA ⟨some ⟨g, 0, none⟩, s2b, s2c, s2d⟩ n n z)) :=
    below_setRow (y5.below (below_setRow gg1 (Nat.le_refl _) _) (by omega) (by simp; omega)) (by omega) _
  have o5' := o5.kept (w' := w5.setRow (w.heap.size + 2) (ntA ⟨some ⟨g, 0, none⟩, s2b, s2c, s2d⟩ n n z)) fun q hq => setRow_other _ _ _ _ (by cases hq; omega)
  have lg1 := gg1.size
  have hcW : CtO B (w5.setRow (w.heap.size + 2) (ntA ⟨some ⟨g, 0, none⟩, s2b, s2c, s2d⟩ n n z)) c s1 := hc.below gW
  generalize w5.setRow (w.heap.size + 2) (ntA ⟨some ⟨g, 0, none⟩, s2b, s2c, s2d⟩ n n z) = W at *
  refine bodyPost_ret (v := .agg (ntA ⟨some ⟨g, 0, none⟩, s2b, s2c, s2d⟩ n n z)) (results_row rowN rfl _ _ _ rfl hWr rfl) rfl ⟨_, rfl, qs.set k (c, s1), by rw [List.length_set, hq1], by rw [cts_set, hq2], ⟨?_, ?_, ?_, ?_, ?_⟩, gW⟩
  · rw [List.length_set, hq1]
    exact o5'.mono (by omega)
  · exact (o1.cra.kept fun q hq => hX q (o1.cra.ltB hq).1 (by have := (o1.cra.ltB hq).2; simp at this; omega) (fun e => hsn.2 _ hq (by subst e; rfl)) (by have := (o1.cra.ltB hq).2; simp at this; omega)).mono (by omega)
  · intro p hp
    rcases List.mem_or_eq_of_mem_set hp with hp | rfl
    · have ho := o1.sl p hp
      exact (ho.kept fun q => by
        by_cases e0 : q < w.heap.size + 3
        · exact .inl (ho.nbs e0)
        · by_cases e1 : q = g
          · subst e1; exact .inl (hsn.1 p hp)
          · by_cases e2 : q < w1.heap.size
            · exact .inr (hX q e2 (by omega) e1 (by omega))
            · exact .inl (ho.fresh (by omega))).mono (by omega)
    · exact hcW
  · intro g' hg'
    cases hg'
    refine ⟨fun p hp => ?_, hsn.2⟩
    rcases List.mem_or_eq_of_mem_set hp with hp | rfl
    · exact hsn.1 p hp
    · exact hc.fresh (by omega)
  · intro g' hg'
    have hs := o1.sc g' hg'
    refine ⟨fun p hp => ?_, hs.2⟩
    rcases List.mem_or_eq_of_mem_set hp with hp | rfl
    · exact hs.1 p hp
    · exact hc.fresh (by have := (o1.cra.ltB hg').2; simp at this; omega)
end Go.Proofs.YtgpmhmdofefdcaaGreat
