/-
  The walk of the statement MailTells: for any room and any operations it returns true, and nothing that was there has changed.
-/
import Derived.Test.YtffbkcjkmhjfnaaB10zd
import Derived.Test.YtffbkcjkmhjfnaaSm
import Derived.Test.YtffbkcjkmhjfnaaCt0
import Derived.Deep.DeepCutAuto
namespace Go.Proofs.Ytffbkcjkmhjfnaa
open Go.RowKit Go.Sort
set_option linter.unusedVariables false
set_option linter.unusedSimpArgs false

/-- What Best of a mail answers. -/
def MbR (N : Nat) (F : Fr) (ok : Bool) (w : World) (e : Ending) (w' : World) : Prop :=
  ∃ da dc, e = .returned (.tuple #[.int .i64 (N : Int), .agg (frV F da dc), .bool ok]) ∧ OL bv 5 w.heap.size w' da F.data.length dc F.data ∧ Below w.heap.size w w'

theorem miS_mem : ∀ (l : List Sl) (p : Sl), miS l p = p ∨ miS l p ∈ l := by
  intro l
  induction l with
  | nil => intro p; exact .inl rfl
  | cons x l ih =>
    intro p
    unfold miS
    split
    · rcases ih x with h | h
      · right; rw [h]; simp
      · right; simp [h]
    · rcases ih p with h | h
      · exact .inl h
      · right; simp [h]

/-- Both have the same best one. -/
theorem best_both {w2 : World} {g B R : Nat} {m : Ml} {a La : Option Addr} {c lc : Nat} {S T : Nat → Prop} {L : List Sl} (hF : MlO B w2 g m a c S) (hI : MlI m) (hL : LmO B w2 La lc L T) (hM : MsR m L) :
    ∃ (N : Nat) (F : Fr) (ok : Bool) (fa : Option Addr) (fc : Nat), (∀ w1, Below w2.heap.size w2 w1 → Calls Try.prog 7 #[.pointer (some ⟨g, 0, none⟩)] w1 (MbR N F ok w1)) ∧
      (∀ w1, Below w2.heap.size w2 w1 → Calls Try.prog 8 #[.agg (smV R La lc L m.wire m.puts)] w1 fun e w' => e = .returned (.tuple #[.int .i64 (N : Int), .agg (frV F fa fc), .bool ok]) ∧ Below w1.heap.size w1 w') ∧
      (∀ w1, Below w2.heap.size w2 w1 → RL bv w1 fa F.data.length fc F.data) ∧ F.data.length ≤ 1000000 := by
  have hlen : L.length ≤ 1000 := by rw [hM.len]; have := hF.le; have := hF.rm; omega
  by_cases h0 : m.wire = 0
  · cases hLe : L with
    | nil =>
      have hws : m.ws = [] := by have := hM.len; rw [hLe] at this; exact List.length_eq_zero_iff.1 this.symm
      exact ⟨0, ⟨0, false, false, 0, []⟩, false, none, 0, fun w1 k => (best_no (hF.below k) hws).mono fun e w' ⟨he, hg⟩ => ⟨none, 0, by rw [he]; rfl, OL.nil _ _ _ _, hg⟩,
        fun w1 k => (rbest_none w1).mono fun e w' ⟨he, hg⟩ => ⟨by rw [he]; rfl, hg⟩, fun w1 k => RL.nil _ _ _ _, by simp⟩
    | cons hd tl =>
      obtain ⟨p, hp, hsp⟩ := hM.best h0 hLe
      have hp1 : (miS tl hd).1.1.1 = p.1.1 := by have : (sSl (miS tl hd)).1 = (sWt p).1 := by rw [hsp]
                                                 exact this
      have hp2 : (miS tl hd).1.2 = p.2 := by have : (sSl (miS tl hd)).2 = (sWt p).2 := by rw [hsp]
                                             exact this
      have hno : fiL 0 L = -1 := by
        rw [hM.find]
        exact fiW_no fun q hq => by have := (hI.no q hq).1; omega
      subst hLe
      have hmem : miS tl hd ∈ hd :: tl := by
        rcases miS_mem tl hd with h | h
        · rw [h]; simp
        · simp [h]
      have hR := fun w1 (k : Below w2.heap.size w2 w1) => ((hL.below k).dat _ hmem).dat
      have hS := fun w1 (k : Below w2.heap.size w2 w1) => rbest_free (room := R) (last := m.puts) w1 hd tl (hL.below k) hlen hno
      rw [hp1] at hR hS
      rw [hp2] at hS
      refine ⟨p.2, p.1.1, true, (miS tl hd).1.1.2.1, (miS tl hd).1.1.2.2, fun w1 k => best_any (hF.below k) p hp, fun w1 k => ?_, hR, (hF.wt p (beM_num hp)).len⟩
      rw [h0]
      exact hS w1 k
  · have hN : hasN m.wire m.ws := by
      rcases hI.wr with e | ⟨p, hp, hpe⟩
      · exact absurd e h0
      · exact ⟨p, hp, hpe⟩
    obtain ⟨k, s, p, hk, hkm, hsp, hp2, hfi, hrm, hff⟩ := hM.waits hN
    have hp := beM_wire h0 hff
    have hs1 : s.1.1.1 = p.1.1 := by have : (sSl s).1 = (sWt p).1 := by rw [hsp]
                                     exact this
    have hs2 : s.1.2 = p.2 := by have : (sSl s).2 = (sWt p).2 := by rw [hsp]
                                 exact this
    have hR := fun w1 (k2 : Below w2.heap.size w2 w1) => ((hL.below k2).dat s (List.mem_of_getElem? hk)).dat
    have hS := fun w1 (k2 : Below w2.heap.size w2 w1) => rbest_wire (room := R) (last := m.puts) w1 (hL.below k2) hlen k s hk hfi (by omega)
    rw [hs1] at hR hS
    rw [hs2] at hS
    exact ⟨p.2, p.1.1, true, s.1.1.2.1, s.1.1.2.2, fun w1 k2 => best_any (hF.below k2) p hp, hS, hR, (hF.wt p (beM_num hp)).len⟩

abbrev opZ10 : Array Value := #[.int .u8 0, .int .u32 0, .bool false, .bool false, .int .u8 0, .slice none 0 0, .int .i64 0]
theorem bx7 {w : World} {g : Nat} {E : TypeId} {v0 v1 v2 v3 v4 v5 v6 : Value} (h : w.heap[g]? = some (.cells #[v0, v1, v2, v3, v4, v5, v6] E (0, 0))) :
    w.cell? ⟨g, 0, none⟩ = some v0 ∧ w.cell? ⟨g, 1, none⟩ = some v1 ∧ w.cell? ⟨g, 2, none⟩ = some v2 ∧ w.cell? ⟨g, 3, none⟩ = some v3 ∧ w.cell? ⟨g, 4, none⟩ = some v4 ∧ w.cell? ⟨g, 5, none⟩ = some v5 ∧ w.cell? ⟨g, 6, none⟩ = some v6 :=
  ⟨by rw [cell_of_row w g 0 _ _ _ h]; rfl, by rw [cell_of_row w g 1 _ _ _ h]; rfl, by rw [cell_of_row w g 2 _ _ _ h]; rfl, by rw [cell_of_row w g 3 _ _ _ h]; rfl, by rw [cell_of_row w g 4 _ _ _ h]; rfl, by rw [cell_of_row w g 5 _ _ _ h]; rfl, by rw [cell_of_row w g 6 _ _ _ h]; rfl⟩

set_option maxRecDepth 100000 in
set_option maxHeartbeats 32000000 in
theorem mailTells_walk (w : World) (room : Int) (a0 : Option Addr) (n0 c0 : Nat) (os : List Op10) (hroom : -9223372036854775808 ≤ room ∧ room ≤ 9223372036854775807) (ho : OpR10 w a0 n0 c0 os) (hd : ∀ o ∈ os, o.2.1.1.data.length ≤ 9223372036854775807) (m0 : n0 ≤ 9223372036854775807) :
    Calls Try.prog 3 #[.int .i64 room, .slice a0 n0 c0] w fun e w' => e = .returned (.bool true) ∧ Below w.heap.size w w' := by
  by_cases hw : room < 1 ∨ 256 < room
  · have hN := new_wrong w room hw
    rcases hw with hw | hw
    · clear hd m0
      go_enter Try.func3, Try.ntmps3
      go_wp2_with (first
        | (go_at_call 4; (with_reducible refine hN.mono ?_); rintro e w1 ⟨rfl, rfl⟩)
        | (go_at_call 5; (with_reducible refine (awake10_any _).mono ?_); rintro e w5 ⟨rfl, g5⟩))
      go_ret
      exact ⟨rfl, g5⟩
    · have h1 : ¬ room < 1 := by omega
      clear hd m0
      go_enter Try.func3, Try.ntmps3
      go_wp2_with (first
        | (go_at_call 4; (with_reducible refine hN.mono ?_); rintro e w1 ⟨rfl, rfl⟩)
        | (go_at_call 5; (with_reducible refine (awake10_any _).mono ?_); rintro e w5 ⟨rfl, g5⟩))
      go_ret
      exact ⟨rfl, g5⟩
  · obtain ⟨R, rfl, hR1, hR2⟩ : ∃ R : Nat, room = (R : Int) ∧ 1 ≤ R ∧ R ≤ 256 := ⟨room.toNat, by omega, by omega, by omega⟩
    obtain ⟨L0, hmin, hL1, hL2⟩ : ∃ L0 : Nat, (∀ ts t w', (Builtin.min_ ts t #[.int .i64 (n0 : Int), .int .i64 200]).run Try.prog w' = .ok (.int .i64 (L0 : Int)) w') ∧ L0 ≤ n0 ∧ L0 ≤ 200 := by
      refine ⟨min n0 200, fun ts t w' => ?_, by omega, by omega⟩
      rw [run_min_int2]; congr 2; split <;> omega
    have hNew := mlNew_any w R hR1 hR2
    have i1 : ¬ (R : Int) < 1 := by omega
    have i2 : ¬ (256 : Int) < (R : Int) := by omega
    have HO := hid ho; clear ho hd hw
    go_enter Try.func3, Try.ntmps3
    go_wp2_with (first
      | (go_at_call 4; (with_reducible refine hNew.mono ?_); rintro e w1 ⟨g, rfl, h1, hg1, g1⟩
         have b1 := heap_alloc_new w1 (.cells smZ 30))
      | (with_reducible refine wpList_storeR rowSm rfl _ _ rfl _ _ rfl rfl b1 rfl rfl (sm_ones R none 0 [] 0 0) ?_)
      | (with_reducible refine wpList_cutToK0 elO10 rfl _ _ rfl _ _ L0 rfl rfl rfl HO.out.row hL1 ?_; intro a5 hr5))
    obtain ⟨hm, hhm⟩ : ∃ hm, hm = w1.heap.size := ⟨_, rfl⟩
    have hT0 : MtR w g hm R 0 ((w1.alloc (.cells smZ 30)).setRow hm (smV R none 0 [] 0 0)) := by
      have k : Below w1.heap.size w1 ((w1.alloc (.cells smZ 30)).setRow hm (smV R none 0 [] 0 0)) := below_setRow (bnew0 w1 _) (by omega) _
      refine ⟨_, _, _, _, none, 0, [], _, h1.below k, neM_I R, LmO.nil _ _, ⟨rfl, fun s hs => (by cases hs)⟩, rfl, Nat.le_refl _, by rw [hhm]; exact setRow_heap _ _ _ _ _ _ b1, by rw [hhm]; exact g1.size, fun e => ?_, fun e => e, fun k e => e.elim, bstep g1 k⟩
      have := h1.sL _ e; omega
    rw [← hhm]
    rw [← hhm] at b1
    clear hNew h1 i1 i2 hmin b1 m0
    have hgg := g1.size
    generalize (w1.alloc (.cells smZ 30)).setRow hm (smV R none 0 [] 0 0) = w2 at *
    clear g1 hhm
    go_loopg [43] L0 (fun gn vi wr => ∃ i : Nat, i ≤ L0 ∧ gn = L0 - i ∧ vi = .int .i64 (i : Int) ∧ MtR w g hm R i wr)
    case atStart => exact ⟨0, by omega, by omega, rfl, hT0⟩
    case round =>
      obtain ⟨i, hi, rfl, rfl, hT⟩ := hrel
      clear hT0
      have hbel : Below w.heap.size w wr := by obtain ⟨m, a, c, S, La, lc, L, T, _, _, _, _, _, _, _, _, _, _, _, hb⟩ := hT; exact hb
      by_cases hlt : i < L0
      · obtain ⟨o, hox⟩ : ∃ o, (os.take L0)[i]? = some o := ⟨_, List.getElem?_eq_getElem (by rw [hr5.len]; exact hlt)⟩
        have hom : o ∈ os := List.mem_of_mem_take (List.mem_of_getElem? hox)
        obtain ⟨gb, off, rfl, hgb, hrg⟩ := (hr5.below hbel).range hox
        have b0 := heap_alloc_new wr (.cells opZ10 36)
        have hdat := (HO.out.dat o hom).below hbel
        have hwh := HO.out.wh o hom
        have kW : Below wr.heap.size wr ((wr.alloc (.cells opZ10 36)).setRow wr.heap.size (opV10 o)) := below_setRow (bnew0 wr _) (Nat.le_refl _) _
        have bW := setRow_heap _ _ _ (opV10 o) _ _ b0
        have hst := hid (step_any o hT kW (hdat.below kW) hwh (by omega))
        have HT := hid hT
        clear hox hom hT
        go_upto_region 12 with (first
          | (with_reducible refine wpList_loadM rowO10 rfl _ rfl _ _ rfl (opV10 o) hrg rfl ?_)
          | (with_reducible refine wpList_storeR rowO10 rfl _ _ rfl _ _ rfl rfl b0 rfl rfl (op_ones10 _) ?_)
          | (with_reducible refine wpList_loadR rowO10 rfl _ rfl _ rfl bW rfl ?_)
          | (go_at_call 6; (with_reducible refine Calls.mono hst.out ?_); rintro e w3 ⟨rfl, hT3, hk3⟩))
        -- BEST
        have bW3 := hk3 wr.heap.size _ (Nat.le_refl _) bW
        have HT3 := hid hT3
        obtain ⟨m, a, c, S, La, lc, L, T, hF, hI, hL, hM, hR, hn, hbx, hhm, hnS, hnT, hTS, hb⟩ := hT3
        obtain ⟨N, F, ok, fa, fc, kB1, kB2, kRl, hFl⟩ := best_both (R := R) hF hI hL hM
        have HB1 := hid kB1
        have HB2 := hid kB2
        have hlen : L.length ≤ 1000 := by rw [hM.len]; have := hF.le; have := hF.rm; omega
        clear kB1 kB2 b0 bW hk3 hst hrg hgb hdat hbel hhm hnS hnT hTS hn hR
        generalize hbE : wr.heap.size = b at *
        have HBE := hid hbE; clear hbE
        go_upto_region 14 with (first
          | (go_at_call 7; (with_reducible refine Calls.mono (HB1.out w3 (Below.refl _ _)) ?_); rintro e w4 ⟨da, dc, rfl, od, g4⟩
             have f4 := heap_alloc_new w4 (.cells frZr 34))
          | (with_reducible refine wpList_storeR rowF rfl _ _ rfl _ _ rfl rfl f4 rfl rfl (fr_ones F da dc) ?_
             have g45 : Below w4.heap.size w4 ((w4.alloc (.cells frZr 34)).setRow w4.heap.size (frV F da dc)) := below_setRow (bnew0 w4 _) (Nat.le_refl _) _
             have f5 := setRow_heap _ _ _ (frV F da dc) _ _ f4
             have od5 := od.below g45
             have g35 := bstep g4 g45
             have z34 := g4.size
             clear f4 od g45
             generalize (w4.alloc (.cells frZr 34)).setRow w4.heap.size (frV F da dc) = W5 at *
             generalize hpE : w4.heap.size = p1 at *
             clear hpE g4
             have s5 := bx_below hbx g35)
          | (with_reducible refine wpList_loadR rowSm rfl _ rfl _ rfl s5 rfl ?_)
          | (go_at_call 8; (with_reducible refine Calls.mono (HB2.out W5 g35) ?_); rintro e w6 ⟨rfl, g6⟩
             have f6 := heap_alloc_new w6 (.cells frZr 34))
          | (with_reducible refine wpList_storeR rowF rfl _ _ rfl _ _ rfl rfl f6 rfl rfl (fr_ones F fa fc) ?_
             have g67 : Below w6.heap.size w6 ((w6.alloc (.cells frZr 34)).setRow w6.heap.size (frV F fa fc)) := below_setRow (bnew0 w6 _) (Nat.le_refl _) _
             have e7 := setRow_heap _ _ _ (frV F fa fc) _ _ f6
             have g57 := bstep g6 g67
             have g37 := bstep g35 g57
             have f7 := bx_below f5 g57
             have od7 := od5.below g57
             clear f6 g67 g6 f5 od5 s5 g57
             generalize (w6.alloc (.cells frZr 34)).setRow w6.heap.size (frV F fa fc) = W7 at *
             generalize hp2 : w6.heap.size = p2 at *
             clear hp2))
        have s7 := bx_below hbx g37
        have b7 := bx_below bW3 g37
        have hF7 := hF.below g37
        have hL7 := hL.below g37
        have rl7 := kRl W7 g37
        obtain ⟨n1, hn1⟩ : ∃ n1, F.data.length = n1 := ⟨_, rfl⟩
        obtain ⟨nn, hnn⟩ : ∃ nn, L.length = nn := ⟨_, rfl⟩
        have hwn : m.ws.length = nn := by rw [← hM.len]; exact hnn
        obtain ⟨wv, hwv⟩ : ∃ wv, hasW o.2.2 m.ws = wv := ⟨_, rfl⟩
        have hwv2 : decide (0 ≤ fiL o.2.2 L) = wv := by rw [hM.find]; exact hwv
        obtain ⟨rv, hrv⟩ : ∃ rv, riF o.2.1.1.id o.2.1.1.ext o.2.1.1.rem o.2.1.1.dlc o.2.1.1.data.length = rv := ⟨_, rfl⟩
        obtain ⟨K, hK⟩ : ∃ K, keyF o.2.1.1.id o.2.1.1.ext o.2.1.1.rem = K := ⟨_, rfl⟩
        obtain ⟨wi, hwi⟩ : ∃ wi, m.wire = wi := ⟨_, rfl⟩
        obtain ⟨pu, hpu⟩ : ∃ pu, m.puts = pu := ⟨_, rfl⟩
        have eSm : smV R La lc L m.wire m.puts = #[.int .i64 (R : Int), .slice La nn lc, .int .i64 (wi : Int), .int .i64 (pu : Int)] := by rw [← hnn, ← hwi, ← hpu]
        have eF1 : frV F da dc = #[.int .u32 (F.id : Int), .bool F.ext, .bool F.rem, .int .u8 (F.dlc : Int), .slice da n1 dc] := by rw [← hn1]
        have eF2 : frV F fa fc = #[.int .u32 (F.id : Int), .bool F.ext, .bool F.rem, .int .u8 (F.dlc : Int), .slice fa n1 fc] := by rw [← hn1]
        have odl := od7.rl
        have kSame : ∀ d os, Calls Try.prog 9 #[.agg #[.int .u32 (F.id : Int), .bool F.ext, .bool F.rem, .int .u8 (F.dlc : Int), .slice da n1 dc], .agg #[.int .u32 (F.id : Int), .bool F.ext, .bool F.rem, .int .u8 (F.dlc : Int), .slice fa n1 fc]] (grow (redrawn W7 d) os) fun e w'' => e = .returned (.bool true) ∧ ∃ r : Regrown, w'' = grow (redrawn W7 r.d) r.os := fun d os => Calls.regrown_of (by have e := same_eq (grow (redrawn W7 d) os) F da fa dc fc (odl.below (below_regrown _ _ _)) (rl7.below (below_regrown _ _ _)) hFl; rw [eF1, eF2] at e; exact e)
        have kLen : ∀ d os, Calls Try.prog 10 #[.pointer (some ⟨g, 0, none⟩)] (grow (redrawn W7 d) os) fun e w'' => e = .returned (.int .i64 (nn : Int)) ∧ ∃ r : Regrown, w'' = grow (redrawn W7 r.d) r.os := fun d os => Calls.regrown_of ((mlen_any (hF7.below (below_regrown _ _ _))).mono fun e w' ⟨he, hw⟩ => ⟨by rw [he, hwn], hw ▸ Below.refl _ _⟩)
        have kWait : ∀ d os, Calls Try.prog 11 #[.pointer (some ⟨g, 0, none⟩), .int .i64 o.2.2] (grow (redrawn W7 d) os) fun e w'' => e = .returned (.bool wv) ∧ ∃ r : Regrown, w'' = grow (redrawn W7 r.d) r.os := fun d os => Calls.regrown_of ((waits_any (hF7.below (below_regrown _ _ _)) o.2.2).mono fun e w' ⟨he, hw⟩ => ⟨by rw [he, hwv], hw⟩)
        have kRWait : ∀ d os, Calls Try.prog 12 #[.agg #[.int .i64 (R : Int), .slice La nn lc, .int .i64 (wi : Int), .int .i64 (pu : Int)], .int .i64 o.2.2] (grow (redrawn W7 d) os) fun e w'' => e = .returned (.bool wv) ∧ ∃ r : Regrown, w'' = grow (redrawn W7 r.d) r.os := fun d os => Calls.regrown_of (by have e := (rwaits_any (room := R) (wire := m.wire) (last := m.puts) (grow (redrawn W7 d) os) o.2.2 (hL7.below (below_regrown _ _ _)) hlen); rw [hwv2, eSm] at e; exact e)
        have kRight : ∀ d os, Calls Try.prog 13 #[.agg #[.int .u32 (o.2.1.1.id : Int), .bool o.2.1.1.ext, .bool o.2.1.1.rem, .int .u8 (o.2.1.1.dlc : Int), .slice o.2.1.2.1 o.2.1.1.data.length o.2.1.2.2]] (grow (redrawn W7 d) os) fun e w'' => e = .returned (.bool rv) ∧ ∃ r : Regrown, w'' = grow (redrawn W7 r.d) r.os := fun d os => Calls.regrown_of (by have e := frRight_any (grow (redrawn W7 d) os) o.2.1.1.id o.2.1.1.ext o.2.1.1.rem o.2.1.1.dlc o.2.1.2.1 o.2.1.1.data.length o.2.1.2.2 hwh.2.1 hwh.2.2; rw [hrv] at e; exact e)
        have kKey : ∀ d os, Calls Try.prog 14 #[.agg #[.int .u32 (o.2.1.1.id : Int), .bool o.2.1.1.ext, .bool o.2.1.1.rem, .int .u8 (o.2.1.1.dlc : Int), .slice o.2.1.2.1 o.2.1.1.data.length o.2.1.2.2]] (grow (redrawn W7 d) os) fun e w'' => e = .returned (.int .u32 (K : Int)) ∧ ∃ r : Regrown, w'' = grow (redrawn W7 r.d) r.os := fun d os => Calls.regrown_of (by have e := key_any (grow (redrawn W7 d) os) o.2.1.1.id o.2.1.1.ext o.2.1.1.rem o.2.1.1.dlc o.2.1.2.1 o.2.1.1.data.length o.2.1.2.2 hwh.2.1; rw [hK] at e; exact e)
        have kRKey : ∀ d os, Calls Try.prog 15 #[.agg #[.int .u32 (o.2.1.1.id : Int), .bool o.2.1.1.ext, .bool o.2.1.1.rem, .int .u8 (o.2.1.1.dlc : Int), .slice o.2.1.2.1 o.2.1.1.data.length o.2.1.2.2]] (grow (redrawn W7 d) os) fun e w'' => e = .returned (.int .u32 (K : Int)) ∧ ∃ r : Regrown, w'' = grow (redrawn W7 r.d) r.os := fun d os => Calls.regrown_of (by have e := refKey_any (grow (redrawn W7 d) os) o.2.1.1.id o.2.1.1.ext o.2.1.1.rem o.2.1.1.dlc o.2.1.2.1 o.2.1.1.data.length o.2.1.2.2 hwh.2.1; rw [hK] at e; exact e)
        have s7c := s7
        rw [eSm] at s7c
        have f7c := f7
        rw [eF1] at f7c
        have e7c := e7
        rw [eF2] at e7c
        obtain ⟨cu0, cu1, cu2, cu3, cu4⟩ := bx5 f7c
        have du0 := cell_regrown cu0
        have du1 := cell_regrown cu1
        have du2 := cell_regrown cu2
        have du3 := cell_regrown cu3
        have du4 := cell_regrown cu4
        clear cu0 cu1 cu2 cu3 cu4
        obtain ⟨cv0, cv1, cv2, cv3, cv4⟩ := bx5 e7c
        have dv0 := cell_regrown cv0
        have dv1 := cell_regrown cv1
        have dv2 := cell_regrown cv2
        have dv3 := cell_regrown cv3
        have dv4 := cell_regrown cv4
        clear cv0 cv1 cv2 cv3 cv4
        obtain ⟨cq0, cq1, cq2, cq3⟩ := bx4m s7c
        have dq0 := cell_regrown cq0
        have dq1 := cell_regrown cq1
        have dq2 := cell_regrown cq2
        have dq3 := cell_regrown cq3
        clear cq0 cq1 cq2 cq3
        obtain ⟨co0, co1, co2, co3, co4, co5, co6⟩ := bx7 b7
        have do0 := cell_regrown co0
        have do1 := cell_regrown co1
        have do2 := cell_regrown co2
        have do3 := cell_regrown co3
        have do4 := cell_regrown co4
        have do5 := cell_regrown co5
        have do6 := cell_regrown co6
        clear co0 co1 co2 co3 co4 co5 co6
        have hNN : ((N : Int) == (N : Int)) = true := by simp
        have hnn2 : ((nn : Int) == (nn : Int)) = true := by simp
        have hKK : ((K : Int) == (K : Int)) = true := by simp
        have hoo : (ok == ok) = true := by simp
        have hww : (wv == wv) = true := by simp
        have hoo2 : (ok != ok) = false := by simp
        have hww2 : (wv != wv) = false := by simp
        have HN1 := hid hn1
        have hn1l : n1 ≤ 1000000 := by rw [← hn1]; exact hFl
        clear hF hI hL hM hbx hb hF7 hL7 rl7 hn1 hnn hwn hwv hwv2 hrv hK hwi hpu eSm eF1 eF2 odl s7c f7c e7c e7 kRl hFl hlen hwh bW3 s7 b7 g35 HB1 HB2
        cases rv
        · refine wp_region_quiet_below (by kernel_rfl) (by kernel_rfl) ?_
          repeat (go_big_quiet_step (first
            | (go_at_call 9; with_reducible exact kSame _ _)
            | (go_at_call 10; with_reducible exact kLen _ _)
            | (go_at_call 11; with_reducible exact kWait _ _)
            | (go_at_call 12; with_reducible exact kRWait _ _)
            | (go_at_call 13; with_reducible exact kRight _ _)
            | (go_at_call 14; with_reducible exact kKey _ _)
            | (go_at_call 15; with_reducible exact kRKey _ _)))
          refine wpQuiet_nil ?_
          intro w9 hw9
          have g9 : Below W7.heap.size W7 w9 := by obtain ⟨p9, rfl⟩ := hw9; exact below_regrown _ _ _
          clear hw9 kSame kLen kWait kRWait kRight kKey kRKey du0 du1 du2 du3 du4 dv0 dv1 dv2 dv3 dv4 dq0 dq1 dq2 dq3 do0 do1 do2 do3 do4 do5 do6
          have g39 := bstep g37 g9
          have f9 := bx_below f7 g9
          have od9 := od7.below g9
          clear g37 g9 f7 od7
          rw [HN1.out] at od9
          have z39 := g39.size
          have x4 := (bx5 f9).2.2.2.2
          rw [HN1.out] at x4
          go_wp2
          clear x4
          go_loopg [113] n1 (fun gn vi wl => ∃ (k : Nat) (l' : List UInt8), k ≤ n1 ∧ gn = n1 - k ∧ vi = .int .i64 (k : Int) ∧ OL bv 5 w3.heap.size wl da n1 dc l' ∧ wl.heap[p1]? = some (.cells (frV F da dc) 34 (0, 0)) ∧ Below w3.heap.size w3 wl)
          case atStart => exact ⟨0, F.data, by omega, by omega, rfl, od9, f9, g39⟩
          case round =>
            obtain ⟨k, l', hk, rfl, rfl, hO, bx, gl⟩ := hrel
            have x4 := (bx5 bx).2.2.2.2
            rw [HN1.out] at x4
            by_cases hkl : k < n1
            · rcases hO.ex with ⟨_, h0, _⟩ | ⟨gx, cur, hxa, hBx, hhx, hcx⟩
              · omega
              · obtain ⟨v, hv⟩ : ∃ v, l'[k]? = some v := ⟨_, List.getElem?_eq_getElem (by rw [hO.len]; exact hkl)⟩
                have hne : p1 ≠ gx := fun e => by rw [← e, bx] at hhx; simp at hhx
                rw [hxa] at x4
                have hO2 := hO
                rw [hxa] at hO2
                obtain ⟨c1, c2⟩ := hO2.cellAt hv
                unfold bv at c1
                have hO3 : OL bv 5 w3.heap.size (wr.setCell ⟨gx, k, none⟩ (.int .u8 99)) (some ⟨gx, 0, none⟩) n1 dc (l'.set k 99) := hO2.set 99
                have gl3 : Below w3.heap.size w3 (wr.setCell ⟨gx, k, none⟩ (.int .u8 99)) := gl.setCell hBx _
                have bx3 : (wr.setCell ⟨gx, k, none⟩ (.int .u8 99)).heap[p1]? = some (.cells (frV F da dc) 34 (0, 0)) := (Below.heap_setCell _ _ _ _ hne).trans bx
                rw [← hxa] at hO3
                have HXA := hid hxa
                clear hxa hhx hv bx hO hO2 od9 gl f9
                go_wp2
                go_roundg (n1 - (k + 1))
                case measure => omega
                case rel => exact ⟨k + 1, _, by omega, rfl, by go_num, hO3, bx3, gl3⟩
            · obtain rfl : k = n1 := by omega
              have hT9 := HT3.out.below gl
              go_wp2
              go_roundg (L0 - (i + 1))
              case measure => omega
              case rel => exact ⟨i + 1, by omega, rfl, by go_num, hT9⟩
        · refine wp_region_quiet_below (by kernel_rfl) (by kernel_rfl) ?_
          repeat (go_big_quiet_step (first
            | (go_at_call 9; with_reducible exact kSame _ _)
            | (go_at_call 10; with_reducible exact kLen _ _)
            | (go_at_call 11; with_reducible exact kWait _ _)
            | (go_at_call 12; with_reducible exact kRWait _ _)
            | (go_at_call 13; with_reducible exact kRight _ _)
            | (go_at_call 14; with_reducible exact kKey _ _)
            | (go_at_call 15; with_reducible exact kRKey _ _)))
          refine wpQuiet_nil ?_
          intro w9 hw9
          have g9 : Below W7.heap.size W7 w9 := by obtain ⟨p9, rfl⟩ := hw9; exact below_regrown _ _ _
          clear hw9 kSame kLen kWait kRWait kRight kKey kRKey du0 du1 du2 du3 du4 dv0 dv1 dv2 dv3 dv4 dq0 dq1 dq2 dq3 do0 do1 do2 do3 do4 do5 do6
          have g39 := bstep g37 g9
          have f9 := bx_below f7 g9
          have od9 := od7.below g9
          clear g37 g9 f7 od7
          rw [HN1.out] at od9
          have z39 := g39.size
          have x4 := (bx5 f9).2.2.2.2
          rw [HN1.out] at x4
          go_wp2
          clear x4
          go_loopg [113] n1 (fun gn vi wl => ∃ (k : Nat) (l' : List UInt8), k ≤ n1 ∧ gn = n1 - k ∧ vi = .int .i64 (k : Int) ∧ OL bv 5 w3.heap.size wl da n1 dc l' ∧ wl.heap[p1]? = some (.cells (frV F da dc) 34 (0, 0)) ∧ Below w3.heap.size w3 wl)
          case atStart => exact ⟨0, F.data, by omega, by omega, rfl, od9, f9, g39⟩
          case round =>
            obtain ⟨k, l', hk, rfl, rfl, hO, bx, gl⟩ := hrel
            have x4 := (bx5 bx).2.2.2.2
            rw [HN1.out] at x4
            by_cases hkl : k < n1
            · rcases hO.ex with ⟨_, h0, _⟩ | ⟨gx, cur, hxa, hBx, hhx, hcx⟩
              · omega
              · obtain ⟨v, hv⟩ : ∃ v, l'[k]? = some v := ⟨_, List.getElem?_eq_getElem (by rw [hO.len]; exact hkl)⟩
                have hne : p1 ≠ gx := fun e => by rw [← e, bx] at hhx; simp at hhx
                rw [hxa] at x4
                have hO2 := hO
                rw [hxa] at hO2
                obtain ⟨c1, c2⟩ := hO2.cellAt hv
                unfold bv at c1
                have hO3 : OL bv 5 w3.heap.size (wr.setCell ⟨gx, k, none⟩ (.int .u8 99)) (some ⟨gx, 0, none⟩) n1 dc (l'.set k 99) := hO2.set 99
                have gl3 : Below w3.heap.size w3 (wr.setCell ⟨gx, k, none⟩ (.int .u8 99)) := gl.setCell hBx _
                have bx3 : (wr.setCell ⟨gx, k, none⟩ (.int .u8 99)).heap[p1]? = some (.cells (frV F da dc) 34 (0, 0)) := (Below.heap_setCell _ _ _ _ hne).trans bx
                rw [← hxa] at hO3
                have HXA := hid hxa
                clear hxa hhx hv bx hO hO2 od9 gl f9
                go_wp2
                go_roundg (n1 - (k + 1))
                case measure => omega
                case rel => exact ⟨k + 1, _, by omega, rfl, by go_num, hO3, bx3, gl3⟩
            · obtain rfl : k = n1 := by omega
              have hT9 := HT3.out.below gl
              go_wp2
              go_roundg (L0 - (i + 1))
              case measure => omega
              case rel => exact ⟨i + 1, by omega, rfl, by go_num, hT9⟩
      · obtain rfl : i = L0 := by omega
        go_wp2_with (go_at_call 5; (with_reducible refine (awake10_any _).mono ?_); rintro e w5 ⟨rfl, g5⟩)
        go_ret
        exact ⟨rfl, bstep hbel g5⟩
end Go.Proofs.Ytffbkcjkmhjfnaa
