/-
  Any one operation on both (jackstaylaw10.step): a number given up, a frame put; all of them.
-/
import Derived.Test.YtffbkcjkmhjfnaaB10zc
namespace Go.Proofs.Ytffbkcjkmhjfnaa
open Go.RowKit Go.Sort
set_option linter.unusedVariables false
set_option linter.unusedSimpArgs false

section
variable {w wr : World} {g hm R n : Nat} {m : Ml} {a La : Option Addr} {c lc : Nat} {S T : Nat → Prop} {L : List Sl} (o : Op10)
  (hF : MlO w.heap.size wr g m a c S) (hI : MlI m) (hL : LmO w.heap.size wr La lc L T) (hM : MsR m L) (hR : m.room = R) (hn : m.puts ≤ n)
  (hbx : wr.heap[hm]? = some (.cells (smV R La lc L m.wire m.puts) 30 (0, 0))) (hhm : w.heap.size ≤ hm) (hnS : ¬ S hm) (hnT : ¬ T hm) (hTS : ∀ k, T k → ¬ S k) (hb : Below w.heap.size w wr)
include hF hI hL hM hR hn hbx hhm hnS hnT hTS hb

theorem any_abort6 (hr : (o.1 : Int) % 8 = 6) : Calls Try.prog 6 #[.pointer (some ⟨g, 0, none⟩), .pointer (some ⟨hm, 0, none⟩), .agg (opV10 o)] wr fun e w' => e = .returned (.bool true) ∧ MtR w g hm R n w' ∧ Ch (fun b => S b ∨ b = hm) wr w' := by
  have hlen : L.length ≤ 1000 := by rw [hM.len]; have := hF.le; have := hF.rm; omega
  have hB : w.heap.size ≤ wr.heap.size := hb.size
  cases hN : hasW o.2.2 m.ws
  · refine step_abort6 o (m' := m) (L' := L) hF hL hbx hhm hnS hnT hTS hb hr false 100 (fun w1 g1 => ?_) (fun w1 h1 => ?_) hI hM hR hn
    · exact rabort_no w1 o.2.2 (hL.below g1) (Nat.le_trans hB g1.size) hlen (hM.none hN)
    · exact (abort_no h1 o.2.2 hN).mono fun e w' ⟨he, hg⟩ => ⟨he, h1.below hg, Ch.of_below hg⟩
  · obtain ⟨p0, hp0, he0⟩ := hasW_yes hN
    obtain ⟨k, s, p, hk, hkm, hsp, hp2, hfi, hrm, hff⟩ := hM.waits (N := p0.2) ⟨p0, hp0, rfl⟩
    have hs2 : s.1.2 = p0.2 := by have : (sSl s).2 = (sWt p).2 := by rw [hsp]
                                  rw [← hp2]; exact this
    by_cases hw : p0.2 = m.wire
    · have hw0 : m.wire ≠ 0 := by have := (hI.no p0 hp0).1; omega
      refine step_abort6 o (m' := { m with ab := true }) (L' := L.set k (s.1, true)) hF hL hbx hhm hnS hnT hTS hb hr false 0 (fun w1 g1 => ?_) (fun w1 h1 => ?_) (hI.give hw0) (hM.give hI hk (by rw [hs2, hw])) hR hn
      · rw [← he0, hw]
        rw [hw] at hfi
        exact rabort_wire w1 (hL.below g1) (Nat.le_trans hB g1.size) hlen k s hk hfi
      · rw [← he0, hw] at hN ⊢
        exact abort_wire h1 hN
    · refine step_abort6 o (m' := rmM p0.2 m) (L' := L.take k ++ L.drop (k + 1)) hF hL hbx hhm hnS hnT hTS hb hr true 0 (fun w1 g1 => ?_) (fun w1 h1 => ?_) (hI.rm hw) (hM.gone hI hw hrm) hR hn
      · rw [← he0]
        exact rabort_now w1 (p0.2 : Int) (hL.below g1) (Nat.le_trans hB g1.size) hlen k (List.getElem?_eq_some_iff.1 hk).1 hfi (by show (m.wire : Int) ≠ _; omega)
      · rw [← he0] at hN ⊢
        exact abort_yes h1 p0.2 hN hw

theorem any_abort7 (hr : (o.1 : Int) % 8 = 7) : Calls Try.prog 6 #[.pointer (some ⟨g, 0, none⟩), .pointer (some ⟨hm, 0, none⟩), .agg (opV10 o)] wr fun e w' => e = .returned (.bool true) ∧ MtR w g hm R n w' ∧ Ch (fun b => S b ∨ b = hm) wr w' := by
  have hlen : L.length ≤ 1000 := by rw [hM.len]; have := hF.le; have := hF.rm; omega
  have hB : w.heap.size ≤ wr.heap.size := hb.size
  cases hN : hasW o.2.2 m.ws
  · refine step_abort7 o (m' := m) (L' := L) hF hL hbx hhm hnS hnT hTS hb hr false 100 (fun w1 g1 => ?_) (fun w1 h1 => ?_) hI hM hR hn
    · exact rabort_no w1 o.2.2 (hL.below g1) (Nat.le_trans hB g1.size) hlen (hM.none hN)
    · exact (abort_no h1 o.2.2 hN).mono fun e w' ⟨he, hg⟩ => ⟨he, h1.below hg, Ch.of_below hg⟩
  · obtain ⟨p0, hp0, he0⟩ := hasW_yes hN
    obtain ⟨k, s, p, hk, hkm, hsp, hp2, hfi, hrm, hff⟩ := hM.waits (N := p0.2) ⟨p0, hp0, rfl⟩
    have hs2 : s.1.2 = p0.2 := by have : (sSl s).2 = (sWt p).2 := by rw [hsp]
                                  rw [← hp2]; exact this
    by_cases hw : p0.2 = m.wire
    · have hw0 : m.wire ≠ 0 := by have := (hI.no p0 hp0).1; omega
      refine step_abort7 o (m' := { m with ab := true }) (L' := L.set k (s.1, true)) hF hL hbx hhm hnS hnT hTS hb hr false 0 (fun w1 g1 => ?_) (fun w1 h1 => ?_) (hI.give hw0) (hM.give hI hk (by rw [hs2, hw])) hR hn
      · rw [← he0, hw]
        rw [hw] at hfi
        exact rabort_wire w1 (hL.below g1) (Nat.le_trans hB g1.size) hlen k s hk hfi
      · rw [← he0, hw] at hN ⊢
        exact abort_wire h1 hN
    · refine step_abort7 o (m' := rmM p0.2 m) (L' := L.take k ++ L.drop (k + 1)) hF hL hbx hhm hnS hnT hTS hb hr true 0 (fun w1 g1 => ?_) (fun w1 h1 => ?_) (hI.rm hw) (hM.gone hI hw hrm) hR hn
      · rw [← he0]
        exact rabort_now w1 (p0.2 : Int) (hL.below g1) (Nat.le_trans hB g1.size) hlen k (List.getElem?_eq_some_iff.1 hk).1 hfi (by show (m.wire : Int) ≠ _; omega)
      · rw [← he0] at hN ⊢
        exact abort_yes h1 p0.2 hN hw
end

section
variable {w wr : World} {g hm R n : Nat} {m : Ml} {a La : Option Addr} {c lc : Nat} {S T : Nat → Prop} {L : List Sl}
  (hF : MlO w.heap.size wr g m a c S) (hI : MlI m) (hL : LmO w.heap.size wr La lc L T) (hM : MsR m L) (hR : m.room = R) (hn : m.puts ≤ n)
  (hbx : wr.heap[hm]? = some (.cells (smV R La lc L m.wire m.puts) 30 (0, 0))) (hhm : w.heap.size ≤ hm) (hnS : ¬ S hm) (hnT : ¬ T hm) (hTS : ∀ k, T k → ¬ S k) (hb : Below w.heap.size w wr)
include hF hI hL hM hR hn hbx hhm hnS hnT hTS hb

theorem any_put (ow : Nat) (on : Int) (F : Fr) (da : Option Addr) (dc : Nat) (hr : (ow : Int) % 8 = 0 ∨ (ow : Int) % 8 = 1 ∨ (ow : Int) % 8 = 2) (hdat : RL bv wr da F.data.length dc F.data) (hid : F.id < 4294967296) (hdl : F.dlc < 256) (hn1 : n ≤ 1000) :
    Calls Try.prog 6 #[.pointer (some ⟨g, 0, none⟩), .pointer (some ⟨hm, 0, none⟩), .agg (opV10 (ow, ((F, (da, dc)), on)))] wr fun e w' => e = .returned (.bool true) ∧ MtR w g hm R (n + 1) w' ∧ Ch (fun b => S b ∨ b = hm) wr w' := by
  have hlen : L.length ≤ 1000 := by rw [hM.len]; have := hF.le; have := hF.rm; omega
  have hB : w.heap.size ≤ wr.heap.size := hb.size
  obtain ⟨G, hmg, hG1, hG20⟩ : ∃ G : Nat, (∀ ts t w', (Builtin.min_ ts t #[.int .i64 (F.data.length : Int), .int .i64 20]).run Try.prog w' = .ok (.int .i64 (G : Int)) w') ∧ G ≤ F.data.length ∧ G ≤ 20 := by
    refine ⟨min F.data.length 20, fun ts t w' => ?_, by omega, by omega⟩
    rw [run_min_int2]; congr 2; split <;> omega
  obtain ⟨F2, hF2⟩ : ∃ F2 : Fr, F2 = ⟨F.id, F.ext, F.rem, F.dlc, F.data.take G⟩ := ⟨_, rfl⟩
  have hF2d : F.data.take G = F2.data := by rw [hF2]
  have hG2 : F2.data.length = G := by rw [← hF2d]; simp; omega
  have hF2e : F2.id = F.id ∧ F2.ext = F.ext ∧ F2.rem = F.rem ∧ F2.dlc = F.dlc := by rw [hF2]; exact ⟨rfl, rfl, rfl, rfl⟩
  have hi2 : F2.id < 4294967296 := by rw [hF2e.1]; exact hid
  have hd2 : F2.dlc < 256 := by rw [hF2e.2.2.2]; exact hdl
  clear hF2
  cases hri : riF F2.id F2.ext F2.rem F2.dlc F2.data.length
  · have hRf : ∀ w1 fa fc T1, LmO w.heap.size w1 La lc L T1 → RL bv w1 fa F2.data.length fc F2.data → (∀ q, fa = some q → T1 q.block) → w.heap.size ≤ w1.heap.size → Calls Try.prog 22 #[.agg (smV R La lc L m.wire m.puts), .agg (frV F2 fa fc)] w1 (RmR w.heap.size w1 R L m.wire m.puts T1 fun v => .returned (.tuple #[v, .int .i64 ((0 : Nat) : Int), .int .i64 40])) := fun w1 fa fc T1 h1 _ _ _ => rput_wrong w1 F2 fa fc h1 hi2 hd2 hri
    have hMl : ∀ w1 fa fc, MlO w.heap.size w1 g m a c S → (∀ w', Ch S w1 w' → RL bv w' fa F2.data.length fc F2.data) → Calls Try.prog 17 #[.pointer (some ⟨g, 0, none⟩), .agg (frV F2 fa fc)] w1 (MpR w.heap.size w1 g (fun _ _ => m) S 0 40) := fun w1 fa fc h1 _ => (put_wrong h1 F2 fa fc hi2 hd2 hri).mono fun e w' ⟨he, hg⟩ => ⟨a, c, S, none, 0, he, h1.below hg, Ch.of_below hg, fun b hb => .inl hb⟩
    have hMf : ∀ (a' : Option Addr) (c' : Nat) (fa : Option Addr) (fc : Nat), MlI m ∧ MsR m L ∧ m.room = R ∧ m.puts ≤ n + 1 ∧ m.wire = m.wire ∧ m.puts = m.puts := fun _ _ _ _ => ⟨hI, hM, hR, by omega, rfl, rfl⟩
    rcases hr with h | h | h
    · exact step_put0 (n := n + 1) ow on F da dc hF hL hbx hhm hnS hnT hTS hb h 0 40 m.wire m.puts (fun _ _ => m) (fun _ _ => L) hdat F2 G hmg hG1 hG20 hF2d hF2e hG2 hRf hMl hMf
    · exact step_put1 (n := n + 1) ow on F da dc hF hL hbx hhm hnS hnT hTS hb h 0 40 m.wire m.puts (fun _ _ => m) (fun _ _ => L) hdat F2 G hmg hG1 hG20 hF2d hF2e hG2 hRf hMl hMf
    · exact step_put2 (n := n + 1) ow on F da dc hF hL hbx hhm hnS hnT hTS hb h 0 40 m.wire m.puts (fun _ _ => m) (fun _ _ => L) hdat F2 G hmg hG1 hG20 hF2d hF2e hG2 hRf hMl hMf
  · by_cases hful : m.ws.length = m.room
    · have hRf : ∀ w1 fa fc T1, LmO w.heap.size w1 La lc L T1 → RL bv w1 fa F2.data.length fc F2.data → (∀ q, fa = some q → T1 q.block) → w.heap.size ≤ w1.heap.size → Calls Try.prog 22 #[.agg (smV R La lc L m.wire m.puts), .agg (frV F2 fa fc)] w1 (RmR w.heap.size w1 R L m.wire m.puts T1 fun v => .returned (.tuple #[v, .int .i64 ((0 : Nat) : Int), .int .i64 5])) := fun w1 fa fc T1 h1 _ _ _ => rput_full w1 F2 fa fc h1 hi2 hd2 hri (by rw [hM.len, hful, hR]; exact Nat.le_refl _)
      have hMl : ∀ w1 fa fc, MlO w.heap.size w1 g m a c S → (∀ w', Ch S w1 w' → RL bv w' fa F2.data.length fc F2.data) → Calls Try.prog 17 #[.pointer (some ⟨g, 0, none⟩), .agg (frV F2 fa fc)] w1 (MpR w.heap.size w1 g (fun _ _ => m) S 0 5) := fun w1 fa fc h1 _ => (put_full h1 F2 fa fc hi2 hd2 hri hful).mono fun e w' ⟨he, hg⟩ => ⟨a, c, S, none, 0, he, h1.below hg, Ch.of_below hg, fun b hb => .inl hb⟩
      have hMf : ∀ (a' : Option Addr) (c' : Nat) (fa : Option Addr) (fc : Nat), MlI m ∧ MsR m L ∧ m.room = R ∧ m.puts ≤ n + 1 ∧ m.wire = m.wire ∧ m.puts = m.puts := fun _ _ _ _ => ⟨hI, hM, hR, by omega, rfl, rfl⟩
      rcases hr with h | h | h
      · exact step_put0 (n := n + 1) ow on F da dc hF hL hbx hhm hnS hnT hTS hb h 0 5 m.wire m.puts (fun _ _ => m) (fun _ _ => L) hdat F2 G hmg hG1 hG20 hF2d hF2e hG2 hRf hMl hMf
      · exact step_put1 (n := n + 1) ow on F da dc hF hL hbx hhm hnS hnT hTS hb h 0 5 m.wire m.puts (fun _ _ => m) (fun _ _ => L) hdat F2 G hmg hG1 hG20 hF2d hF2e hG2 hRf hMl hMf
      · exact step_put2 (n := n + 1) ow on F da dc hF hL hbx hhm hnS hnT hTS hb h 0 5 m.wire m.puts (fun _ _ => m) (fun _ _ => L) hdat F2 G hmg hG1 hG20 hF2d hF2e hG2 hRf hMl hMf
    · have hlt : m.ws.length < m.room := by have := hF.le; omega
      have hRf : ∀ w1 fa fc T1, LmO w.heap.size w1 La lc L T1 → RL bv w1 fa F2.data.length fc F2.data → (∀ q, fa = some q → T1 q.block) → w.heap.size ≤ w1.heap.size → Calls Try.prog 22 #[.agg (smV R La lc L m.wire m.puts), .agg (frV F2 fa fc)] w1 (RmR w.heap.size w1 R (L ++ [(((F2, (fa, fc)), m.puts + 1), false)]) m.wire (m.puts + 1) T1 fun v => .returned (.tuple #[v, .int .i64 ((m.puts + 1 : Nat) : Int), .int .i64 0])) := fun w1 fa fc T1 h1 hrl hT1 hw1 => rput_any w1 F2 fa fc h1 hw1 hi2 hd2 hri (by rw [hM.len, ← hR]; exact hlt) hlen ⟨hrl, hi2, hd2, by show F2.data.length ≤ _; omega, by show m.puts + 1 < _; omega⟩ hT1
      have hMl : ∀ w1 fa fc, MlO w.heap.size w1 g m a c S → (∀ w', Ch S w1 w' → RL bv w' fa F2.data.length fc F2.data) → Calls Try.prog 17 #[.pointer (some ⟨g, 0, none⟩), .agg (frV F2 fa fc)] w1 (MpR w.heap.size w1 g (fun da dc => puM F2 da dc m) S (m.puts + 1) 0) := fun w1 fa fc h1 hrl => (mlPut_any h1 F2 fa fc hi2 hd2 hri hlt (by omega) hrl (by omega)).mono fun e w' ⟨a', c', S', d', e', he, h2, k2, hs2⟩ => ⟨a', c', S', d', e', by rw [he]; rfl, h2, k2, hs2⟩
      have hMf : ∀ (a' : Option Addr) (c' : Nat) (fa : Option Addr) (fc : Nat), MlI (puM F2 a' c' m) ∧ MsR (puM F2 a' c' m) (L ++ [(((F2, (fa, fc)), m.puts + 1), false)]) ∧ (puM F2 a' c' m).room = R ∧ (puM F2 a' c' m).puts ≤ n + 1 ∧ (puM F2 a' c' m).wire = m.wire ∧ (puM F2 a' c' m).puts = m.puts + 1 := fun a' c' fa fc => ⟨hI.pu F2 a' c', hM.put hI F2 a' fa c' fc, hR, by show m.puts + 1 ≤ _; omega, rfl, rfl⟩
      rcases hr with h | h | h
      · exact step_put0 (n := n + 1) ow on F da dc hF hL hbx hhm hnS hnT hTS hb h (m.puts + 1) 0 m.wire (m.puts + 1) (fun da dc => puM F2 da dc m) (fun fa fc => L ++ [(((F2, (fa, fc)), m.puts + 1), false)]) hdat F2 G hmg hG1 hG20 hF2d hF2e hG2 hRf hMl hMf
      · exact step_put1 (n := n + 1) ow on F da dc hF hL hbx hhm hnS hnT hTS hb h (m.puts + 1) 0 m.wire (m.puts + 1) (fun da dc => puM F2 da dc m) (fun fa fc => L ++ [(((F2, (fa, fc)), m.puts + 1), false)]) hdat F2 G hmg hG1 hG20 hF2d hF2e hG2 hRf hMl hMf
      · exact step_put2 (n := n + 1) ow on F da dc hF hL hbx hhm hnS hnT hTS hb h (m.puts + 1) 0 m.wire (m.puts + 1) (fun da dc => puM F2 da dc m) (fun fa fc => L ++ [(((F2, (fa, fc)), m.puts + 1), false)]) hdat F2 G hmg hG1 hG20 hF2d hF2e hG2 hRf hMl hMf
end

/-- Any operation on both; what is newer than both stays. -/
theorem step_any {w w0 wr : World} {g hm R n : Nat} (o : Op10) (h0 : MtR w g hm R n w0) (k0 : Below w0.heap.size w0 wr) (hdat : RL bv wr o.2.1.2.1 o.2.1.1.data.length o.2.1.2.2 o.2.1.1.data) (ho : o.1 < 256 ∧ o.2.1.1.id < 4294967296 ∧ o.2.1.1.dlc < 256) (hn1 : n ≤ 1000) :
    Calls Try.prog 6 #[.pointer (some ⟨g, 0, none⟩), .pointer (some ⟨hm, 0, none⟩), .agg (opV10 o)] wr fun e w' => e = .returned (.bool true) ∧ MtR w g hm R (n + 1) w' ∧ ∀ k ob, w0.heap.size ≤ k → wr.heap[k]? = some ob → w'.heap[k]? = some ob := by
  obtain ⟨m, a, c, S, La, lc, L, T, hF, hI, hL, hM, hR, hn, hbx, hhm, hnS, hnT, hTS, hb⟩ := h0
  have hSL := hF.sL
  have hlt : hm < w0.heap.size := bx_lt hbx
  replace hF := hF.below k0
  replace hL := hL.below k0
  replace hbx := bx_below hbx k0
  replace hb := bstep hb k0
  have hr : (o.1 : Int) % 8 = 3 ∨ (o.1 : Int) % 8 = 4 ∨ (o.1 : Int) % 8 = 5 ∨ (o.1 : Int) % 8 = 6 ∨ (o.1 : Int) % 8 = 7 ∨ ((o.1 : Int) % 8 = 0 ∨ (o.1 : Int) % 8 = 1 ∨ (o.1 : Int) % 8 = 2) := by omega
  have hn' : m.puts ≤ n + 1 := by omega
  have key : Calls Try.prog 6 #[.pointer (some ⟨g, 0, none⟩), .pointer (some ⟨hm, 0, none⟩), .agg (opV10 o)] wr fun e w' => e = .returned (.bool true) ∧ MtR w g hm R (n + 1) w' ∧ Ch (fun b => S b ∨ b = hm) wr w' := by
    rcases hr with hr | hr | hr | hr | hr | hr
    · exact any_start o hF hI hL hM hR hn' hbx hhm hnS hnT hTS hb hr
    · exact any_lost o hF hI hL hM hR hn' hbx hhm hnS hnT hTS hb hr
    · exact any_sent o hF hI hL hM hR hn' hbx hhm hnS hnT hTS hb hr
    · exact any_abort6 o hF hI hL hM hR hn' hbx hhm hnS hnT hTS hb hr
    · exact any_abort7 o hF hI hL hM hR hn' hbx hhm hnS hnT hTS hb hr
    · exact any_put hF hI hL hM hR hn hbx hhm hnS hnT hTS hb o.1 o.2.2 o.2.1.1 o.2.1.2.1 o.2.1.2.2 hr hdat ho.2.1 ho.2.2 hn1
  refine key.mono fun e w' ⟨he, hT, hc⟩ => ⟨he, hT, fun k ob hk h => hc.bx h (fun e => ?_)⟩
  rcases e with e | e
  · have := hSL _ e; omega
  · omega
end Go.Proofs.Ytffbkcjkmhjfnaa
