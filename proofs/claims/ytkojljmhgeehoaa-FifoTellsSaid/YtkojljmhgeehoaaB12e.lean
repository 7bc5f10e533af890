/-
  Contracts: rx, pops, the chapter's examples (awake); a fifo of the call's own, whatever its blocks.
-/
import Derived.Test.YtkojljmhgeehoaaB12d
namespace Go.Proofs.Ytkojljmhgeehoaa
open Go.RowKit Go.Sort
set_option linter.unusedVariables false

/-- A frame that came at a time. -/
abbrev rxN (k : Nat) (t : Int) : Rx := ((⟨k, false, false, 0, []⟩, (none, 0)), t)

set_option maxRecDepth 100000 in
theorem rx_any (w : World) (t : Int) (k : Nat) (hk : t % 4294967296 = (k : Int)) : Calls Try.prog 17 #[.int .i64 t] w fun e w' => e = .returned (.agg (rxV (rxN k t))) ∧ Below w.heap.size w w' := by
  have hb := heap_alloc_new w (.cells rxZ 36)
  go_enter Try.func17, Try.ntmps17
  go_wp2_with (with_reducible refine wpList_storeR rowX rfl _ _ rfl _ _ rfl rfl hb rfl rfl (rx_ones (rxN k t)) ?_)
  exact bodyPost_ret (v := .agg (rxV (rxN k t))) (results_row rowX rfl _ _ _ rfl (setRow_heap _ _ _ _ _ _ hb) rfl) rfl ⟨rfl, below_setRow (bnew0 w _) (Nat.le_refl _) _⟩

/-- A fifo of the call's own, whatever its blocks; nothing that was there has changed. -/
def FfG (w0 : World) (g : Nat) (m : Fm) (w : World) : Prop := (∃ s a c st S, FfO w0.heap.size w g s m a c st S) ∧ Below w0.heap.size w0 w

section
variable {w0 w w1 : World} {g : Nat} {m : Fm}
theorem FfG.call (h : FfG w0 g m w) (k : Below w.heap.size w w1) : FfG w0 g m w1 := by
  obtain ⟨⟨s, a, c, st, S, h⟩, hb⟩ := h
  exact ⟨⟨s, a, c, st, S, h.below k⟩, bstep hb k⟩
theorem FfG.le (h : FfG w0 g m w) : m.fs.length ≤ m.room := by obtain ⟨⟨s, a, c, st, S, h⟩, hb⟩ := h; exact h.le

theorem gNew_any (w : World) (room : Nat) (h1 : 1 ≤ room) (h2 : room ≤ 256) (hb : Below w0.heap.size w0 w) :
    Calls Try.prog 7 #[.int .i64 (room : Int)] w fun e w' => ∃ g, e = .returned (.tuple #[.pointer (some ⟨g, 0, none⟩), .int .i64 0]) ∧ FfG w0 g (neF room) w' :=
  (ffNew_any w room h1 h2).mono fun e w' ⟨g, s, he, h, hb'⟩ => by
    have hB : w0.heap.size ≤ w.heap.size := hb.size
    exact ⟨g, he, ⟨s, _, _, _, _, ⟨h.box, h.row.mono hB, h.ad, h.cle, h.nle, h.fr, fun p hp => (h.dat p hp).mono hB, Nat.le_trans hB h.hB, h.sg, h.ss, h.ng, h.sd, fun k hk => Nat.le_trans hB (h.sB k hk), h.nd, h.pw, h.r1, h.rm, h.le, h.sL⟩⟩, bstep hb hb'⟩
theorem gLen_any (h : FfG w0 g m w) : Calls Try.prog 15 #[.pointer (some ⟨g, 0, none⟩)] w fun e w' => e = .returned (.int .i64 (m.fs.length : Int)) ∧ w = w' := by
  obtain ⟨⟨s, a, c, st, S, h⟩, hb⟩ := h; exact ffLen_any h
theorem gOver_any (h : FfG w0 g m w) : Calls Try.prog 16 #[.pointer (some ⟨g, 0, none⟩)] w fun e w' => e = .returned (.bool m.ov) ∧ w = w' := by
  obtain ⟨⟨s, a, c, st, S, h⟩, hb⟩ := h; exact ffOver_any h
theorem gClear_any (h : FfG w0 g m w) : Calls Try.prog 14 #[.pointer (some ⟨g, 0, none⟩)] w fun e w' => e = .returned (.bool m.ov) ∧ FfG w0 g { m with ov := false } w' := by
  obtain ⟨⟨s, a, c, st, S, h⟩, hb⟩ := h
  exact (ffClear_any h).mono fun e w' ⟨he, h', k⟩ => ⟨he, ⟨s, a, c, st, S, h'⟩, k.below hb (Nat.le_refl _) h.sB⟩
theorem gPush_full (h : FfG w0 g m w) (cs : Array Value) (hl : m.fs.length = m.room) :
    Calls Try.prog 10 #[.pointer (some ⟨g, 0, none⟩), .agg cs] w fun e w' => e = .returned (.int .i64 5) ∧ FfG w0 g { m with ov := true } w' := by
  obtain ⟨⟨s, a, c, st, S, h⟩, hb⟩ := h
  exact (ffPush_full h cs hl).mono fun e w' ⟨he, h', k⟩ => ⟨he, ⟨s, a, c, st, S, h'⟩, k.below hb (Nat.le_refl _) h.sB⟩
theorem gPush_any (h : FfG w0 g m w) (k : Nat) (t : Int) (hl : m.fs.length < m.room) :
    Calls Try.prog 10 #[.pointer (some ⟨g, 0, none⟩), .agg (rxV (rxN k t))] w fun e w' => e = .returned (.int .i64 0) ∧ ∃ da dc, FfG w0 g (puF ⟨k, false, false, 0, []⟩ da dc t m) w' := by
  obtain ⟨⟨s, a, c, st, S, h⟩, hb⟩ := h
  exact (ffPush_any h ⟨k, false, false, 0, []⟩ t none 0 hl (fun w' _ => RL.nil _ _ _ _) (Nat.zero_le _)).mono fun e w' ⟨a', c', st', S', da, dc, he, h', k, hs⟩ => ⟨he, da, dc, ⟨s, a', c', st', S', h'⟩, k.below hb (Nat.le_refl _) h.sB⟩

set_option maxRecDepth 100000 in
set_option maxHeartbeats 1000000 in
theorem pops_any (h : FfG w0 g m w) (x : Rx) (h0 : m.fs[0]? = some x) (t : Int) :
    Calls Try.prog 18 #[.pointer (some ⟨g, 0, none⟩), .int .i64 t] w fun e w' => e = .returned (.bool (x.2 == t)) ∧ FfG w0 g (poF m) w' := by
  obtain ⟨⟨s, a, c, st, S, h⟩, hb⟩ := h
  have hp := ffPop_any h x h0
  go_enter Try.func18, Try.ntmps18
  go_wp2_with (first
    | (go_at_call 12; (refine hp.mono ?_); rintro e w1 ⟨a', rfl, h1, hX, k1⟩
       have b1 := heap_alloc_new w1 (.cells rxZ 36))
    | (with_reducible refine wpList_storeR rowX rfl _ _ rfl _ _ rfl rfl b1 rfl rfl (rx_ones x) ?_
       have b2 := setRow_heap _ _ _ (rxV x) _ _ b1
       have g2 : Below w1.heap.size w1 ((w1.alloc (.cells rxZ 36)).setRow w1.heap.size (rxV x)) := below_setRow (bnew0 w1 _) (Nat.le_refl _) _
       have q5 := (bx6 b2).2.2.2.2.2))
  go_ret
  exact ⟨rfl, ⟨s, _, _, _, _, h1.below g2⟩, bstep (k1.below hb (Nat.le_refl _) (fun k hk => by rcases hk with e | e; rw [e]; exact h.hB; rw [e]; exact h.sB _ h.ss)) g2⟩

theorem gPop_no (h : FfG w0 g m w) (h0 : m.fs = []) : Calls Try.prog 12 #[.pointer (some ⟨g, 0, none⟩)] w fun e w' => e = .returned (.tuple #[.agg rxZ, .bool false]) ∧ FfG w0 g m w' := by
  obtain ⟨⟨s, a, c, st, S, h⟩, hb⟩ := h
  exact (ffPop_no h h0).mono fun e w' ⟨he, k⟩ => ⟨he, ⟨s, a, c, st, S, h.below k⟩, bstep hb k⟩
end
end Go.Proofs.Ytkojljmhgeehoaa
