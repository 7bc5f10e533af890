/-
  Any one operation on both (jackstaylaw10.step): they stay alike.
-/
import Derived.Test.YtffbkcjkmhjfnaaB10zb
namespace Go.Proofs.Ytffbkcjkmhjfnaa
open Go.RowKit Go.Sort
set_option linter.unusedVariables false
set_option linter.unusedSimpArgs false

section
variable {w wr : World} {g hm R n : Nat} {m : Ml} {a La : Option Addr} {c lc : Nat} {S T : Nat → Prop} {L : List Sl} (o : Op10)
  (hF : MlO w.heap.size wr g m a c S) (hI : MlI m) (hL : LmO w.heap.size wr La lc L T) (hM : MsR m L) (hR : m.room = R) (hn : m.puts ≤ n)
  (hbx : wr.heap[hm]? = some (.cells (smV R La lc L m.wire m.puts) 30 (0, 0))) (hhm : w.heap.size ≤ hm) (hnS : ¬ S hm) (hnT : ¬ T hm) (hTS : ∀ k, T k → ¬ S k) (hb : Below w.heap.size w wr)
include hF hI hL hM hR hn hbx hhm hnS hnT hTS hb

theorem any_lost (hr : (o.1 : Int) % 8 = 4) : Calls Try.prog 6 #[.pointer (some ⟨g, 0, none⟩), .pointer (some ⟨hm, 0, none⟩), .agg (opV10 o)] wr fun e w' => e = .returned (.bool true) ∧ MtR w g hm R n w' ∧ Ch (fun b => S b ∨ b = hm) wr w' := by
  have hlen : L.length ≤ 1000 := by rw [hM.len]; have := hF.le; have := hF.rm; omega
  have hB : w.heap.size ≤ wr.heap.size := hb.size
  by_cases h0 : m.wire = 0
  · have hab : m.ab = false := by cases e : m.ab; rfl; exact absurd h0 (hI.aw e)
    have he : loM m = frM m := by unfold loM; rw [hab]; rfl
    refine step_lost o (m' := frM m) (L' := L) hF hL hbx hhm hnS hnT hTS hb hr (fun w1 g1 => ?_) (fun w1 h1 => ?_) hI.fr (hM.free hab) hR hn
    · rw [h0]
      exact rlost_no w1 (hL.below g1) (Nat.le_trans hB g1.size) hlen
    · have := lost_any h1 hI; rw [he] at this; exact this
  · have hN : hasN m.wire m.ws := by
      rcases hI.wr with e | ⟨p, hp, hpe⟩
      · exact absurd e h0
      · exact ⟨p, hp, hpe⟩
    obtain ⟨k, s, p, hk, hkm, hsp, hp2, hfi, hrm, _⟩ := hM.waits hN
    have hs2 : s.1.2 = m.wire := by have : (sSl s).2 = (sWt p).2 := by rw [hsp]
                                    rw [← hp2]; exact this
    have hgn := hM.gn s (List.mem_of_getElem? hk)
    rw [hs2] at hgn
    have hs : s.2 = m.ab := by rw [hgn]; simp
    cases hab : m.ab
    · have he : loM m = frM m := by unfold loM; rw [hab]; rfl
      refine step_lost o (m' := frM m) (L' := L) hF hL hbx hhm hnS hnT hTS hb hr (fun w1 g1 => ?_) (fun w1 h1 => ?_) hI.fr (hM.free hab) hR hn
      · have := rlost_any (room := R) (last := m.puts) w1 (hL.below g1) (Nat.le_trans hB g1.size) hlen k s hk hfi (by omega)
        rw [hs, hab] at this
        exact this
      · have := lost_any h1 hI; rw [he] at this; exact this
    · have he : loM m = frM (rmM m.wire m) := by unfold loM; rw [hab]; rfl
      refine step_lost o (m' := frM (rmM m.wire m)) (L' := L.take k ++ L.drop (k + 1)) hF hL hbx hhm hnS hnT hTS hb hr (fun w1 g1 => ?_) (fun w1 h1 => ?_) (hI.frm _) (hM.sent hI h0 hrm) hR hn
      · have := rlost_any (room := R) (last := m.puts) w1 (hL.below g1) (Nat.le_trans hB g1.size) hlen k s hk hfi (by omega)
        rw [hs, hab] at this
        exact this
      · have := lost_any h1 hI; rw [he] at this; exact this

theorem any_sent (hr : (o.1 : Int) % 8 = 5) : Calls Try.prog 6 #[.pointer (some ⟨g, 0, none⟩), .pointer (some ⟨hm, 0, none⟩), .agg (opV10 o)] wr fun e w' => e = .returned (.bool true) ∧ MtR w g hm R n w' ∧ Ch (fun b => S b ∨ b = hm) wr w' := by
  have hlen : L.length ≤ 1000 := by rw [hM.len]; have := hF.le; have := hF.rm; omega
  have hB : w.heap.size ≤ wr.heap.size := hb.size
  by_cases h0 : m.wire = 0
  · have he : seM m = m := by unfold seM; rw [if_pos h0]
    refine step_sent o (m' := m) (L' := L) hF hL hbx hhm hnS hnT hTS hb hr 0 false (fun w1 g1 => ?_) (fun w1 h1 => ?_) hI hM hR hn
    · rw [h0]
      exact rsent_no w1 (hL.below g1) (Nat.le_trans hB g1.size) hlen
    · have := sent_any h1 hI; rw [he, h0] at this; exact this
  · have hN : hasN m.wire m.ws := by
      rcases hI.wr with e | ⟨p, hp, hpe⟩
      · exact absurd e h0
      · exact ⟨p, hp, hpe⟩
    obtain ⟨k, s, p, hk, hkm, hsp, hp2, hfi, hrm, _⟩ := hM.waits hN
    have he : seM m = frM (rmM m.wire m) := by unfold seM; rw [if_neg h0]
    refine step_sent o (m' := frM (rmM m.wire m)) (L' := L.take k ++ L.drop (k + 1)) hF hL hbx hhm hnS hnT hTS hb hr m.wire true (fun w1 g1 => ?_) (fun w1 h1 => ?_) (hI.frm _) (hM.sent hI h0 hrm) hR hn
    · exact rsent_any (room := R) (last := m.puts) w1 (hL.below g1) (Nat.le_trans hB g1.size) hlen k (List.getElem?_eq_some_iff.1 hk).1 hfi (by omega)
    · have := sent_any h1 hI
      rw [he, show decide (m.wire ≠ 0) = true from decide_eq_true h0] at this
      exact this

theorem any_start (hr : (o.1 : Int) % 8 = 3) : Calls Try.prog 6 #[.pointer (some ⟨g, 0, none⟩), .pointer (some ⟨hm, 0, none⟩), .agg (opV10 o)] wr fun e w' => e = .returned (.bool true) ∧ MtR w g hm R n w' ∧ Ch (fun b => S b ∨ b = hm) wr w' := by
  have hlen : L.length ≤ 1000 := by rw [hM.len]; have := hF.le; have := hF.rm; omega
  by_cases h0 : m.wire = 0
  · cases hLe : L with
    | nil =>
      have hws : m.ws = [] := by have := hM.len; rw [hLe] at this; exact List.length_eq_zero_iff.1 this.symm
      subst hLe
      refine step_start o (m' := m) (L' := []) hF hL hbx hhm hnS hnT hTS hb hr 0 false (fun w1 g1 => ?_) (fun w1 h1 => ?_) hI hM hR hn
      · have := rstart_of (room := R) (wire := m.wire) (last := m.puts) w1 (hL.below g1) 0 ⟨0, false, false, 0, []⟩ none 0 false (fun w2 g2 => (rbest_none w2).mono fun e w' ⟨he, hg⟩ => ⟨by rw [he]; rfl, hg⟩)
        rw [h0] at this ⊢
        exact this
      · exact (start_no h1 hws).mono fun e w' ⟨he, hg⟩ => ⟨by rw [he]; rfl, by subst hg; exact ⟨h1, Ch.refl _ _⟩⟩
    | cons hd tl =>
      obtain ⟨p, hp, hsp⟩ := hM.best h0 hLe
      have hab : m.ab = false := by cases e : m.ab; rfl; exact absurd h0 (hI.aw e)
      have hp2 : (miS tl hd).1.2 = p.2 := by have : (sSl (miS tl hd)).2 = (sWt p).2 := by rw [hsp]
                                             exact this
      have hno : fiL 0 L = -1 := by
        rw [hM.find]
        exact fiW_no fun q hq => by have := (hI.no q hq).1; omega
      refine step_start o (m' := { m with wire := p.2 }) (L' := L) hF hL hbx hhm hnS hnT hTS hb hr p.2 true (fun w1 g1 => ?_) (fun w1 h1 => start_any h1 p hp) (hI.on (beM_num hp)) (hM.wireOn hab p.2) hR hn
      subst hLe
      rw [h0]
      have := rstart_of (room := R) (wire := 0) (last := m.puts) w1 (hL.below g1) (miS tl hd).1.2 (miS tl hd).1.1.1 (miS tl hd).1.1.2.1 (miS tl hd).1.1.2.2 true (fun w2 g2 => rbest_free w2 hd tl ((hL.below g1).below g2) hlen hno)
      rw [hp2] at this
      exact this
  · have hN : hasN m.wire m.ws := by
      rcases hI.wr with e | ⟨p, hp, hpe⟩
      · exact absurd e h0
      · exact ⟨p, hp, hpe⟩
    obtain ⟨k, s, p, hk, hkm, hsp, hp2, hfi, hrm, hff⟩ := hM.waits hN
    have hs2 : s.1.2 = m.wire := by have : (sSl s).2 = (sWt p).2 := by rw [hsp]
                                    rw [← hp2]; exact this
    have hp := beM_wire h0 hff
    refine step_start o (m' := m) (L' := L) hF hL hbx hhm hnS hnT hTS hb hr m.wire true (fun w1 g1 => ?_) (fun w1 h1 => ?_) hI hM hR hn
    · have := rstart_of (room := R) (wire := m.wire) (last := m.puts) w1 (hL.below g1) s.1.2 s.1.1.1 s.1.1.2.1 s.1.1.2.2 true (fun w2 g2 => rbest_wire w2 ((hL.below g1).below g2) hlen k s hk hfi (by omega))
      rw [hs2] at this
      exact this
    · have := start_any h1 p hp
      rw [hp2] at this
      exact this
end
end Go.Proofs.Ytffbkcjkmhjfnaa
