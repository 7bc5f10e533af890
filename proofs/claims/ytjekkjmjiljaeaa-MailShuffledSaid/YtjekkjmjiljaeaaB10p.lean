/-
  Contract: what MailShuffled sends of a list of frames of unlike keys, one of them given up.
-/
import Derived.Test.YtjekkjmjiljaeaaM10d
import Derived.Test.YtjekkjmjiljaeaaMailOrderWalk
namespace Go.Proofs.Ytjekkjmjiljaeaa
open Go.RowKit Go.Sort Go.Maps
set_option linter.unusedVariables false

/-- A key as a cell. -/
def kv (k : Nat) : Value := .int .u32 (k : Int)
theorem tV : ElT Try.prog 64 31 (.int .u32 0) 4 := ⟨by kernel_rfl, by kernel_rfl, by kernel_rfl, by kernel_rfl, by kernel_rfl⟩
theorem shuf_new (w : World) : Calls Try.prog 9 #[.int .i64 40] w fun e w' => ∃ g, e = .returned (.tuple #[.pointer (some ⟨g, 0, none⟩), .int .i64 0]) ∧ MlO w.heap.size w' g (neM 40) none 0 (fun b => b = g) ∧ w.heap.size ≤ g ∧ Below w.heap.size w w' := mlNew_any w 40 (by omega) (by omega)

/-- What the closure hands back. -/
def ShufR (w : World) (K0 : List Nat) (e : Ending) (w' : World) : Prop :=
  ∃ (ak : Option Addr) (ck : Nat) (ks : List Nat), e = .returned (.tuple #[.slice ak K0.length ck, .bool true]) ∧ OL kv 31 w.heap.size w' ak K0.length ck ks ∧ ks.Pairwise (fun a b => a < b) ∧ (∀ k, k ∈ K0 ↔ k ∈ ks) ∧ Below w.heap.size w w'

/-- The frames of a list, as they are read: right, within their bounds. -/
structure FrG (w : World) (fl : List Ff) : Prop where
  dat : ∀ p ∈ fl, RL bv w p.2.1 p.1.data.length p.2.2 p.1.data
  id : ∀ p ∈ fl, p.1.id < 4294967296
  dl : ∀ p ∈ fl, p.1.dlc < 256
  ri : ∀ p ∈ fl, riF p.1.id p.1.ext p.1.rem p.1.dlc p.1.data.length = true

theorem bx5q {w : World} {g : Nat} {E : TypeId} {v0 v1 v2 v3 v4 : Value} (h : w.heap[g]? = some (.cells #[v0, v1, v2, v3, v4] E (0, 0))) :
    (∀ d os, (grow (redrawn w d) os).cell? ⟨g, 0, none⟩ = some v0) ∧ (∀ d os, (grow (redrawn w d) os).cell? ⟨g, 1, none⟩ = some v1) ∧ (∀ d os, (grow (redrawn w d) os).cell? ⟨g, 2, none⟩ = some v2) ∧
    (∀ d os, (grow (redrawn w d) os).cell? ⟨g, 3, none⟩ = some v3) ∧ (∀ d os, (grow (redrawn w d) os).cell? ⟨g, 4, none⟩ = some v4) := by
  obtain ⟨k0, k1, k2, k3, k4⟩ := bx5 h
  exact ⟨fun d os => cell_regrown k0 d os, fun d os => cell_regrown k1 d os, fun d os => cell_regrown k2 d os, fun d os => cell_regrown k3 d os, fun d os => cell_regrown k4 d os⟩

set_option maxRecDepth 100000 in
set_option maxHeartbeats 16000000 in
theorem shuf_any (w : World) (al : Option Addr) (nl cl : Nat) (fl : List Ff) (bi bo : Nat) (ai : Option Addr) (ni ci : Nat) (ins : List Ff) (out : Nat) (qo : Ff)
    (hl : RK enF 5 w al nl cl fl) (hg : FrG w fl) (hn : nl ≤ 30) (hnd : (fl.map kF).Nodup) (hbi : w.cell? ⟨bi, 0, none⟩ = some (.slice ai ni ci)) (hbo : w.cell? ⟨bo, 0, none⟩ = some (.int .i64 (out : Int))) (hbil : bi < w.heap.size) (hbol : bo < w.heap.size)
    (hin : RK enF 5 w ai ni ci ins) (ho : ins[out]? = some qo) (hqo : qo.1.id < 4294967296) :
    Calls Try.prog 27 #[.slice al nl cl, .pointer (some ⟨bi, 0, none⟩), .pointer (some ⟨bo, 0, none⟩)] w (ShufR w (kyL (kF qo) fl)) := by
  have HL := hid hl; clear hl
  have HG := hid hg; clear hg
  have HIN := hid hin; clear hin
  have HO := hid ho
  have hoi : out < ni := by have := (List.getElem?_eq_some_iff.1 ho).1; rwa [HIN.out.len] at this
  have HND := hid hnd
  have HLN := hid HL.out.len
  clear ho hnd
  generalize hko : kF qo = ko at *
  have HKO := hid hko; clear hko
  go_enter Try.func27, Try.ntmps27
  go_wp2_with (first
    | (go_at_call 9; (with_reducible refine (shuf_new _).mono ?_); rintro e w1 ⟨g, rfl, h1, l1, g1⟩))
  go_loopg [28] nl (fun gn vi wr => ∃ (k : Nat) (m : Ml) (a : Option Addr) (c : Nat) (S : Nat → Prop), k ≤ nl ∧ gn = nl - k ∧ vi = .int .i64 (k : Int) ∧ MlO w.heap.size wr g m a c S ∧ ShuP m k ko (fl.take k) ∧ Below w.heap.size w wr)
  case atStart => exact ⟨0, neM 40, none, 0, _, by omega, by omega, rfl, h1, by rw [List.take_zero]; exact ShuP.new ko, g1⟩
  case round =>
    obtain ⟨k, m, a, c, S, hk, rfl, rfl, hm, hP, gg⟩ := hrel
    clear h1 g1
    by_cases hlt : k < nl
    · obtain ⟨p, hp⟩ : ∃ p, fl[k]? = some p := ⟨_, List.getElem?_eq_getElem (by rw [HLN.out]; exact hlt)⟩
      have hpm : p ∈ fl := List.mem_of_getElem? hp
      obtain ⟨gb, off, rfl, hgb, hrg⟩ := (HL.out.below gg).range hp
      have htk : fl.take (k + 1) = fl.take k ++ [p] := take_snoc hp
      have hdat := HG.out.dat p hpm
      have hid' := HG.out.id p hpm
      have hdl' := HG.out.dl p hpm
      have hri := HG.out.ri p hpm
      have b2 := heap_alloc_new wr (.cells frZr 34)
      have k2 : Below wr.heap.size wr ((wr.alloc (.cells frZr 34)).setRow wr.heap.size (frV p.1 p.2.1 p.2.2)) := below_setRow (bnew0 wr _) (Nat.le_refl _) _
      have b3 : ((wr.alloc (.cells frZr 34)).setRow wr.heap.size (frV p.1 p.2.1 p.2.2)).heap[wr.heap.size]? = some (.cells (frV p.1 p.2.1 p.2.2) 34 (0, 0)) := setRow_heap _ _ _ _ _ _ b2
      have hm2 := hm.below k2
      have gg2 := bstep gg k2
      have hput := mlPut_any hm2 p.1 p.2.1 p.2.2 hid' hdl' hri (by have := hP.le; have := hP.rm; omega) (by have := hP.pu; omega) (fun w' kk => hdat.below (kk.below gg2 (Nat.le_refl _) hm2.sB)) (ri_len hri)
      have HP := hid hP
      have HTK := hid htk
      have HPU := hid hP.pu
      have HWI := hid hP.wi
      have hns : ¬ S wr.heap.size := fun e => by have := hm.sL _ e; omega
      clear hP hp hpm htk hri
      go_wp2_with (first
        | (with_reducible refine wpList_loadM rowF rfl _ rfl _ _ rfl (frV p.1 p.2.1 p.2.2) hrg rfl ?_)
        | (with_reducible refine wpList_storeR rowF rfl _ _ rfl _ _ rfl rfl b2 rfl rfl (fr_ones _ _ _) ?_)
        | (with_reducible refine wpList_loadR rowF rfl _ rfl _ rfl b3 rfl ?_)
        | (go_at_call 22; (with_reducible refine hput.mono ?_); rintro e w3 ⟨a3, c3, S3, da, dc, rfl, h3, r3, s3⟩
           have gg3 := r3.below gg2 (Nat.le_refl _) hm2.sB
           have b33 := r3.bx b3 hns))
      obtain ⟨gi, offi, hai, hgil, hri⟩ := (HIN.out.below gg3).range HO.out
      have hbi3 := (gg3.cell (p := ⟨bi, 0, none⟩) hbil).trans hbi
      have hbo3 := (gg3.cell (p := ⟨bo, 0, none⟩) hbol).trans hbo
      rw [hai] at hbi3
      have hbi4 := cell_regrown hbi3
      have hbo4 := cell_regrown hbo3
      obtain ⟨x0, x1, x2, x3, x4⟩ := bx5q b33
      obtain ⟨y0, y1, y2, y3, y4⟩ := rg5r hri
      have kA := fun d os => Calls.regrown_of (key_any (grow (redrawn w3 d) os) p.1.id p.1.ext p.1.rem p.1.dlc p.2.1 p.1.data.length p.2.2 hid')
      have kB := fun d os => Calls.regrown_of (key_any (grow (redrawn w3 d) os) qo.1.id qo.1.ext qo.1.rem qo.1.dlc qo.2.1 qo.1.data.length qo.2.2 hqo)
      have HKA : Hid (keyF p.1.id p.1.ext p.1.rem = kF p) := rfl
      have HKB : Hid (keyF qo.1.id qo.1.ext qo.1.rem = ko) := HKO.out
      rw [HKA.out] at kA
      rw [HKB.out] at kB
      have f3 : (out : Int) < (ni : Int) := by omega
      clear hai hbi3 hbo3 hri
      by_cases hkk : kF p = ko
      · have he : ((kF p : Int) == (ko : Int)) = true := by rw [beq_iff_eq]; omega
        have HKK := hid hkk; clear hkk
        refine wp_region_quiet_below (by kernel_rfl) (by kernel_rfl) ?_
        repeat (go_big_quiet_step (first | (go_at_call 19; with_reducible exact kA _ _) | (go_at_call 19; with_reducible exact kB _ _)))
        refine wpQuiet_nil ?_
        intro w9 hw9
        have g9 : Below w3.heap.size w3 w9 := by obtain ⟨p9, rfl⟩ := hw9; exact below_regrown _ _ _
        clear hw9 kA kB x0 x1 x2 x3 x4 y0 y1 y2 y3 y4 f3 hbi4 hbo4
        have h9 := h3.below g9
        have hab := abort_yes h9 (m.puts + 1) (hasW_of (p := ((p.1, (da, dc)), m.puts + 1)) (List.mem_append_right _ (by simp)) rfl) (by show m.puts + 1 ≠ m.wire; rw [HWI.out]; omega)
        rw [show ((m.puts + 1 : Nat) : Int) = (m.puts : Int) + 1 by omega] at hab
        have gg9 := bstep gg3 g9
        go_wp2_with (go_at_call 26; (with_reducible refine hab.mono ?_); rintro e w4 ⟨rfl, h4, r4⟩)
        go_roundg (nl - (k + 1))
        case measure => omega
        case rel => exact ⟨k + 1, rmM (m.puts + 1) (puM p.1 da dc m), a3, c3, S3, by omega, rfl, by go_num, h4, by rw [HTK.out]; exact HP.out.skip p da dc HKK.out, r4.below gg9 (Nat.le_refl _) h9.sB⟩
      · have he : ((kF p : Int) == (ko : Int)) = false := by rw [beq_eq_false_iff_ne]; omega
        have HKK := hid hkk; clear hkk
        refine wp_region_quiet_below (by kernel_rfl) (by kernel_rfl) ?_
        repeat (go_big_quiet_step (first | (go_at_call 19; with_reducible exact kA _ _) | (go_at_call 19; with_reducible exact kB _ _)))
        refine wpQuiet_nil ?_
        intro w9 hw9
        have g9 : Below w3.heap.size w3 w9 := by obtain ⟨p9, rfl⟩ := hw9; exact below_regrown _ _ _
        clear hw9 kA kB x0 x1 x2 x3 x4 y0 y1 y2 y3 y4 f3 hbi4 hbo4
        go_wp2
        go_roundg (nl - (k + 1))
        case measure => omega
        case rel => exact ⟨k + 1, puM p.1 da dc m, a3, c3, S3, by omega, rfl, by go_num, h3.below g9, by rw [HTK.out]; exact HP.out.put p da dc HKK.out, bstep gg3 g9⟩
    · obtain rfl : k = nl := by omega
      have hT := SntP.start (l := fl) (by rw [List.take_of_length_le (by rw [HLN.out]; exact Nat.le_refl _)] at hP; exact hP) HND.out
      have hmw := hP.le
      generalize kyL ko fl = K0 at *
      have HK0 : Hid (K0.length ≤ 30) := by have := hT.len; rw [List.length_nil] at this; exact (show K0.length ≤ 30 by omega)
      clear hP HIN HO HKO hbi hbo HG HL
      go_wp2
      go_loopg [14, 63] k (fun gn v14 vi wr => ∃ (j : Nat) (m : Ml) (ak : Option Addr) (nk ck : Nat) (ks : List Nat), j ≤ k ∧ gn = k - j ∧ vi = .int .i64 (j : Int) ∧ v14 = .slice ak nk ck ∧ MlO w.heap.size wr g m a c S ∧ SntP m ks K0 ∧ OL kv 31 w.heap.size wr ak nk ck ks ∧ (∀ q, ak = some q → ¬ S q.block) ∧ m.ws.length + j ≤ k ∧ Below w.heap.size w wr)
      case atStart => exact ⟨0, m, none, 0, 0, [], by omega, by omega, rfl, rfl, hm, hT, OL.nil _ _ _ _, fun q hq => (by cases hq), by omega, gg⟩
      case round =>
        clear hm hT hmw gg
        obtain ⟨j, m2, ak, nk, ck, ks, hj, rfl, rfl, rfl, hm, hT, hO, hak, hmj, gg⟩ := hrel
        by_cases hlt2 : j < k
        · cases hws : m2.ws with
          | nil =>
            have hno := start_no hm hws
            have hlen := mlen_any hm
            rw [hws] at hlen
            have hkl : ks.length = K0.length := by have := hT.len; rw [hws] at this; simpa using this
            have hmem := hid (fun k => hT.mem k)
            have hsrt := hid hT.srt
            have HW := hid hws
            clear hT hws
            go_wp2_with (first
              | (go_at_call 23; (with_reducible refine hno.mono ?_); rintro e w4 ⟨rfl, rfl⟩)
              | (go_at_call 15; (with_reducible refine hlen.mono ?_); rintro e w4 ⟨rfl, rfl⟩))
            obtain rfl : nk = K0.length := by rw [← hO.len, hkl]
            go_ret2
            exact ⟨ak, ck, ks, rfl, hO, hsrt.out, fun k => by rw [hmem.out k, HW.out]; simp, gg⟩
          | cons x l =>
            obtain ⟨p, hp⟩ := beM_some hT.i (by rw [hws]; simp)
            have hmem := beM_num hp
            have hn1 := (hT.i.no p hmem).1
            have hst := start_any hm p hp
            have hrl := rm_len (n := p.2) ⟨p, hmem, rfl⟩
            have hswi := hT.wi
            have hsab := hT.ab
            have hwon := hT.i.on hmem
            have hpid := (hm.wt p hmem).id
            have cK : ∀ w', Calls Try.prog 19 #[.agg (frV p.1.1 none 0)] w' fun e w'' => e = .returned (.int .u32 (kyW p : Int)) ∧ Below w'.heap.size w' w'' := fun w' => key_any w' _ _ _ _ _ _ _ hpid
            have cK2 : ∀ w' da dc, Calls Try.prog 19 #[.agg #[.int .u32 (p.1.1.id : Int), .bool p.1.1.ext, .bool p.1.1.rem, .int .u8 (p.1.1.dlc : Int), .slice da p.1.1.data.length dc]] w' fun e w'' => e = .returned (.int .u32 (kyW p : Int)) ∧ Below w'.heap.size w' w'' := fun w' da dc => key_any w' _ _ _ _ _ _ _ hpid
            have HBO := hid (beM_on hT.i hmem)
            have HT := hid (hT.sent hp)
            have hkl := hO.len
            have hkl2 := hT.len
            have hKb : K0.length ≤ 1000 := by have := HK0.out; omega
            clear cK hp hmem hT hws
            go_wp2_with (first
              | (go_at_call 23; (with_reducible refine hst.mono ?_); rintro e w4 ⟨rfl, h4, r4⟩
                 have gg4 := r4.below gg (Nat.le_refl _) hm.sB
                 have hO4 := hO.ch r4 hak
                 have hbe := best_any h4 p HBO.out)
              | (go_at_call 12; (with_reducible refine hbe.mono ?_); rintro e w5 ⟨da, dc, rfl, o5, g5⟩
                 have b5 := heap_alloc_new w5 (.cells frZr 34)
                 have k6 : Below w5.heap.size w5 ((w5.alloc (.cells frZr 34)).setRow w5.heap.size (frV p.1.1 da dc)) := below_setRow (bnew0 w5 _) (Nat.le_refl _) _
                 have b6 : ((w5.alloc (.cells frZr 34)).setRow w5.heap.size (frV p.1.1 da dc)).heap[w5.heap.size]? = some (.cells (frV p.1.1 da dc) 34 (0, 0)) := setRow_heap _ _ _ _ _ _ b5
                 have g46 := bstep g5 k6
                 have h6 := h4.below g46
                 have gg6 := bstep gg4 g46
                 have hO6 := hO4.below g46
                 have hns : ¬ S w5.heap.size := fun e => by have := h4.sL _ e; have := g5.size; omega
                 have hse := sent_on h6 hwon hswi hsab hn1)
              | (with_reducible refine wpList_storeR rowF rfl _ _ rfl _ _ rfl rfl b5 rfl rfl (fr_ones _ _ _) ?_)
              | (go_at_call 25; (with_reducible refine hse.mono ?_); rintro e w7 ⟨rfl, h7, r7⟩
                 have gg7 := r7.below gg6 (Nat.le_refl _) h6.sB
                 have hO7 := hO6.ch r7 hak
                 have b7 := r7.bx b6 hns)
              | (with_reducible refine wpList_loadR rowF rfl _ rfl _ rfl b7 rfl ?_)
              | (go_at_call 19; (with_reducible refine (cK2 _ _ _).mono ?_); rintro e w8 ⟨rfl, g8⟩
                 have gg8 := bstep gg7 g8
                 have h8 := h7.below g8
                 have hown := (hO7.below g8).alloc (.cells #[.int .u32 (kyW p : Int)] 31)
                 have hsrc := (ol_lit kv 31 0 w8 [kyW p] #[.int .u32 (kyW p : Int)] 1 rfl rfl (by omega) (Nat.zero_le _)).rl
                 have hba : w.heap.size ≤ (w8.alloc (.cells #[.int .u32 (kyW p : Int)] 31)).heap.size := by have := gg8.size; rw [heap_size_alloc]; omega)
              | (at_builtin; refine wpList_appg (f := kv) tV rfl _ _ rfl rfl hown rfl hsrc (by omega) (fun _ => rfl) (by omega) (by omega) hba ?_; intro w9 a9 c9 o9 g9 k9 z9))
            have kA : Ch (fun b => ∃ q, ak = some q ∧ q.block = b) (w8.alloc (.cells #[.int .u32 (kyW p : Int)] 31)) w9 := ⟨g9.os, g9.tape, g9.output, z9, fun b hb hn => (k9 b hb (fun q hq e => hn ⟨q, hq, e⟩)).1⟩
            have h9 := (h8.alloc (.cells #[.int .u32 (kyW p : Int)] 31)).ch kA (fun b hb ⟨q, e1, e2⟩ => hak q e1 (by rw [e2]; exact hb))
            have hak9 : ∀ q, a9 = some q → ¬ S q.block := fun q hq e => by
              have hb := h8.sL _ e
              exact (k9 q.block (by rw [heap_size_alloc]; omega) (fun q0 hq0 e0 => hak q0 hq0 (by rw [e0]; exact e))).2 q hq rfl
            go_roundg (k - (j + 1))
            case measure => omega
            case rel => exact ⟨j + 1, rmM p.2 m2, a9, nk + 1, c9, ks ++ [kyW p], by omega, rfl, by go_num, rfl, h9, HT.out, o9, hak9, by show (rmW p.2 m2.ws).length + (j + 1) ≤ k; omega, (bnew gg8 (.cells #[.int .u32 (kyW p : Int)] 31)).trans g9⟩
        · obtain rfl : j = k := by omega
          have hws : m2.ws = [] := List.eq_nil_of_length_eq_zero (by omega)
          have hlen := mlen_any hm
          rw [hws] at hlen
          have hkl : ks.length = K0.length := by have := hT.len; rw [hws] at this; simpa using this
          have hmem := hid (fun k => hT.mem k)
          have HW := hid hws
          have hsrt := hid hT.srt
          clear hT hws
          obtain rfl : nk = K0.length := by rw [← hO.len, hkl]
          go_wp2_with (first
            | (go_at_call 15; (with_reducible refine hlen.mono ?_); rintro e w4 ⟨rfl, rfl⟩))
          go_ret2
          exact ⟨ak, ck, ks, rfl, hO, hsrt.out, fun k => by rw [hmem.out k, HW.out]; simp, gg⟩
end Go.Proofs.Ytjekkjmjiljaeaa
