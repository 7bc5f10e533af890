/-
  Contracts: SameTaking and SameCtl of equal ones, wherever their lists lie.
  Plain mathematics of layer 9 (NetOwn, NetCrashed): all nodes as they may be; a net beside one that has crashed nodes ahead of the same ones.
  Contract: Give of a net to a node that is crashed.
  Words for the statement NetCrashed: two nets and what happened in both at a bit, node by node.
-/
import Derived.Test.YtgpmhmdofefdcaaGreatB9u
import Derived.WalkMore
import Derived.Test.YtgpmhmdofefdcaaGreatB9s
import Derived.Test.YtgpmhmdofefdcaaGreatM9m
import Derived.Test.YtgpmhmdofefdcaaGreatLdM
import Derived.Laws.Small
namespace Go.Proofs.YtgpmhmdofefdcaaGreat
open Go.RowKit Go.Sort
set_option linter.unusedVariables false
set_option linter.unusedSimpArgs false

/-- The cells of what is read. -/
abbrev tkA (k : Tk) (a : Option Addr) (c : Nat) : Array Value := #[.bool k.b, .int .u8 (k.m : Int), .slice a k.l.length c, .int .u8 (k.p : Int), .bool k.fi]
theorem rowAl9 : RowT Tryz.prog 50 2 := rowT_of (by kernel_rfl) (by kernel_rfl)
theorem rowTk9 : RowT Tryz.prog 52 5 := rowT_of (by kernel_rfl) (by kernel_rfl)

set_option maxRecDepth 100000 in
set_option maxHeartbeats 4000000 in
theorem sameTaking_eq (w : World) (k : Tk) (a b : Option Addr) (c d : Nat) (h : RL .bool w a k.l.length c k.l) (h2 : RL .bool w b k.l.length d k.l) (hn : k.l.length ≤ 1000000) :
    Calls Tryz.prog 35 #[.agg (tkA k a c), .agg (tkA k b d)] w fun e w' => e = .returned (.bool true) ∧ Below w.heap.size w w' := by
  obtain ⟨w0, hw0, b1, b2, g0⟩ := boxed2 w 52 (tkA k a c) (tkA k b d)
  have hS := same_any w0 a k.l.length c k.l b k.l.length d k.l (h.below g0) (h2.below g0) hn
  rw [decide_eq_true rfl] at hS
  obtain ⟨x0, x1, x2, x3, x4⟩ := bx5 b1
  obtain ⟨y0, y1, y2, y3, y4⟩ := bx5 b2
  have hr1 : w0.rangeAt w.heap.size 0 #[.bool k.b, .int .u8 (k.m : Int)].toList := fun j v hv => by
    match j with
    | 0 => cases hv; exact x0
    | 1 => cases hv; exact x1
    | j + 2 => simp at hv
  have hr2 : w0.rangeAt (w.heap.size + 1) 0 #[.bool k.b, .int .u8 (k.m : Int)].toList := fun j v hv => by
    match j with
    | 0 => cases hv; exact y0
    | 1 => cases hv; exact y1
    | j + 2 => simp at hv
  have e1 : ((k.p : Int) == (k.p : Int)) = true := by simp
  have e2 : (k.fi == k.fi) = true := by simp
  have e3 : (k.b == k.b) = true := by simp
  have e4 : ((k.m : Int) == (k.m : Int)) = true := by simp
  generalize (k.p : Int) = vp at *
  generalize (k.m : Int) = vm at *
  generalize k.fi = vf at *
  generalize k.b = vb at *
  clear h h2 hn b1 b2
  go_enter Tryz.func35, Tryz.ntmps35
  go_wp2_with (first
    | (rw [hw0.out])
    | (with_reducible refine wpList_loadM rowAl9 rfl _ rfl w.heap.size 0 rfl #[.bool vb, .int .u8 vm] hr1 rfl ?_)
    | (with_reducible refine wpList_loadM rowAl9 rfl _ rfl (w.heap.size + 1) 0 rfl #[.bool vb, .int .u8 vm] hr2 rfl ?_)
    | (go_at_call 34; (with_reducible refine hS.mono ?_); rintro e w1 ⟨rfl, rfl⟩))
  go_ret
  exact ⟨rfl, g0⟩

set_option maxRecDepth 100000 in
set_option maxHeartbeats 8000000 in
theorem sameCtl_eq (w : World) (c : Ct) (s t : Sl) (h : CtR w c s) (k : CtR w c t) (hn1 : c.wire.length ≤ 1000000) (hn2 : c.tk.l.length ≤ 1000000) :
    Calls Tryz.prog 12 #[.agg (ctA c s), .agg (ctA c t)] w fun e w' => e = .returned (.bool true) ∧ Below w.heap.size w w' := by
  obtain ⟨w0, hw0, bx1, bx2, g0⟩ := boxed2 w 54 (ctA c s) (ctA c t)
  have q1 : ∀ (w1 : World), Below w0.heap.size w0 w1 → ∀ (j : Nat) (v : Value), (ctA c s)[j]? = some v → w1.cell? ⟨w.heap.size, j, none⟩ = some v := fun w1 g1 j v hv => (cell_of_row w1 w.heap.size j _ _ _ (bx_below bx1 g1)).trans hv
  have q2 : ∀ (w1 : World), Below w0.heap.size w0 w1 → ∀ (j : Nat) (v : Value), (ctA c t)[j]? = some v → w1.cell? ⟨w.heap.size + 1, j, none⟩ = some v := fun w1 g1 j v hv => (cell_of_row w1 (w.heap.size + 1) j _ _ _ (bx_below bx2 g1)).trans hv
  have hS := same9 w0 c.give s.da t.da s.dc t.dc (h.da.below g0) (k.da.below g0)
  have hW := fun (w1 : World) (g1 : Below w0.heap.size w0 w1) => same_any w1 s.wa c.wire.length s.wc c.wire t.wa c.wire.length t.wc c.wire ((h.wi.below g0).below g1) ((k.wi.below g0).below g1) hn1
  rw [decide_eq_true rfl] at hW
  have hT := fun (w1 : World) (g1 : Below w0.heap.size w0 w1) => sameTaking_eq w1 c.tk s.ta t.ta s.tc t.tc ((h.ti.below g0).below g1) ((k.ti.below g0).below g1) hn2
  have a0 : (ctA c s)[0]? = some (.int .u8 (c.ph : Int)) := rfl
  have a1 : (ctA c s)[1]? = some (.int .i64 (c.n : Int)) := rfl
  have a2 : (ctA c s)[2]? = some (.int .i64 c.cf.t) := rfl
  have a3 : (ctA c s)[3]? = some (.int .i64 c.cf.r) := rfl
  have a4 : (ctA c s)[4]? = some (.bool c.cf.o) := rfl
  have a5 : (ctA c s)[5]? = some (.int .i64 c.cf.n) := rfl
  have a6 : (ctA c s)[6]? = some (.int .i64 c.cf.m) := rfl
  have a7 : (ctA c s)[7]? = some (.bool c.has) := rfl
  have a8 : (ctA c s)[8]? = some (.int .u32 (c.give.id : Int)) := rfl
  have a9 : (ctA c s)[9]? = some (.bool c.give.ext) := rfl
  have a10 : (ctA c s)[10]? = some (.bool c.give.rem) := rfl
  have a11 : (ctA c s)[11]? = some (.int .u8 (c.give.dlc : Int)) := rfl
  have a12 : (ctA c s)[12]? = some (.slice s.da c.give.data.length s.dc) := rfl
  have a13 : (ctA c s)[13]? = some (.bool c.sends) := rfl
  have a14 : (ctA c s)[14]? = some (.bool c.sender) := rfl
  have a15 : (ctA c s)[15]? = some (.slice s.wa c.wire.length s.wc) := rfl
  have a16 : (ctA c s)[16]? = some (.int .i64 (c.pos : Int)) := rfl
  have a17 : (ctA c s)[17]? = some (.bool c.tk.b) := rfl
  have a18 : (ctA c s)[18]? = some (.int .u8 (c.tk.m : Int)) := rfl
  have a19 : (ctA c s)[19]? = some (.slice s.ta c.tk.l.length s.tc) := rfl
  have a20 : (ctA c s)[20]? = some (.int .u8 (c.tk.p : Int)) := rfl
  have a21 : (ctA c s)[21]? = some (.bool c.tk.fi) := rfl
  have a22 : (ctA c s)[22]? = some (.bool c.rl) := rfl
  have a23 : (ctA c s)[23]? = some (.int .u8 (c.rm : Int)) := rfl
  have a24 : (ctA c s)[24]? = some (.bool c.err) := rfl
  have a25 : (ctA c s)[25]? = some (.bool c.owed) := rfl
  have b0 : (ctA c t)[0]? = some (.int .u8 (c.ph : Int)) := rfl
  have b1 : (ctA c t)[1]? = some (.int .i64 (c.n : Int)) := rfl
  have b2 : (ctA c t)[2]? = some (.int .i64 c.cf.t) := rfl
  have b3 : (ctA c t)[3]? = some (.int .i64 c.cf.r) := rfl
  have b4 : (ctA c t)[4]? = some (.bool c.cf.o) := rfl
  have b5 : (ctA c t)[5]? = some (.int .i64 c.cf.n) := rfl
  have b6 : (ctA c t)[6]? = some (.int .i64 c.cf.m) := rfl
  have b7 : (ctA c t)[7]? = some (.bool c.has) := rfl
  have b8 : (ctA c t)[8]? = some (.int .u32 (c.give.id : Int)) := rfl
  have b9 : (ctA c t)[9]? = some (.bool c.give.ext) := rfl
  have b10 : (ctA c t)[10]? = some (.bool c.give.rem) := rfl
  have b11 : (ctA c t)[11]? = some (.int .u8 (c.give.dlc : Int)) := rfl
  have b12 : (ctA c t)[12]? = some (.slice t.da c.give.data.length t.dc) := rfl
  have b13 : (ctA c t)[13]? = some (.bool c.sends) := rfl
  have b14 : (ctA c t)[14]? = some (.bool c.sender) := rfl
  have b15 : (ctA c t)[15]? = some (.slice t.wa c.wire.length t.wc) := rfl
  have b16 : (ctA c t)[16]? = some (.int .i64 (c.pos : Int)) := rfl
  have b17 : (ctA c t)[17]? = some (.bool c.tk.b) := rfl
  have b18 : (ctA c t)[18]? = some (.int .u8 (c.tk.m : Int)) := rfl
  have b19 : (ctA c t)[19]? = some (.slice t.ta c.tk.l.length t.tc) := rfl
  have b20 : (ctA c t)[20]? = some (.int .u8 (c.tk.p : Int)) := rfl
  have b21 : (ctA c t)[21]? = some (.bool c.tk.fi) := rfl
  have b22 : (ctA c t)[22]? = some (.bool c.rl) := rfl
  have b23 : (ctA c t)[23]? = some (.int .u8 (c.rm : Int)) := rfl
  have b24 : (ctA c t)[24]? = some (.bool c.err) := rfl
  have b25 : (ctA c t)[25]? = some (.bool c.owed) := rfl
  have i1 : ((c.ph : Int) != (c.ph : Int)) = false := by simp
  have i2 : ((c.n : Int) != (c.n : Int)) = false := by simp
  have i3 : ((c.pos : Int) != (c.pos : Int)) = false := by simp
  have Q1 := hid q1
  have Q2 := hid q2
  have HW := hid hW
  have HT := hid hT
  clear h k hn1 hn2 q1 q2 bx1 bx2 hW hT
  generalize hA : ctA c s = A at *
  generalize hB : ctA c t = B at *
  clear hA hB
  go_enter Tryz.func12, Tryz.ntmps12
  go_wp2_with (first
    | (go_at_call 16; rw [hw0.out]; (with_reducible refine hS.mono ?_); rintro e w1 ⟨rfl, g1⟩
       have x15 : w1.cell? ⟨w.heap.size, 15, none⟩ = some (.slice s.wa c.wire.length s.wc) := Q1.out w1 g1 15 _ a15
       have x17 : w1.cell? ⟨w.heap.size, 17, none⟩ = some (.bool c.tk.b) := Q1.out w1 g1 17 _ a17
       have x18 : w1.cell? ⟨w.heap.size, 18, none⟩ = some (.int .u8 (c.tk.m : Int)) := Q1.out w1 g1 18 _ a18
       have x19 : w1.cell? ⟨w.heap.size, 19, none⟩ = some (.slice s.ta c.tk.l.length s.tc) := Q1.out w1 g1 19 _ a19
       have x20 : w1.cell? ⟨w.heap.size, 20, none⟩ = some (.int .u8 (c.tk.p : Int)) := Q1.out w1 g1 20 _ a20
       have x21 : w1.cell? ⟨w.heap.size, 21, none⟩ = some (.bool c.tk.fi) := Q1.out w1 g1 21 _ a21
       have y15 : w1.cell? ⟨(w.heap.size + 1), 15, none⟩ = some (.slice t.wa c.wire.length t.wc) := Q2.out w1 g1 15 _ b15
       have y17 : w1.cell? ⟨(w.heap.size + 1), 17, none⟩ = some (.bool c.tk.b) := Q2.out w1 g1 17 _ b17
       have y18 : w1.cell? ⟨(w.heap.size + 1), 18, none⟩ = some (.int .u8 (c.tk.m : Int)) := Q2.out w1 g1 18 _ b18
       have y19 : w1.cell? ⟨(w.heap.size + 1), 19, none⟩ = some (.slice t.ta c.tk.l.length t.tc) := Q2.out w1 g1 19 _ b19
       have y20 : w1.cell? ⟨(w.heap.size + 1), 20, none⟩ = some (.int .u8 (c.tk.p : Int)) := Q2.out w1 g1 20 _ b20
       have y21 : w1.cell? ⟨(w.heap.size + 1), 21, none⟩ = some (.bool c.tk.fi) := Q2.out w1 g1 21 _ b21
       have hW1 := HW.out w1 g1
       have hT1 := HT.out w1 g1)
    | (go_at_call 34; (with_reducible refine hW1.mono ?_); rintro e w2 ⟨rfl, rfl⟩)
    | (go_at_call 35; (with_reducible refine hT1.mono ?_); rintro e w3 ⟨rfl, g3⟩))
  go_ret
  exact ⟨rfl, bstep (bstep g0 g1) g3⟩
end Go.Proofs.YtgpmhmdofefdcaaGreat

namespace Go.Proofs.YtgpmhmdofefdcaaGreat
open Go.RowKit Go.Sort
set_option linter.unusedVariables false
set_option linter.unusedSimpArgs false

/-- All nodes as they may be, behind m bits at most. -/
def NwI (m : Nat) (cs : List Ct) : Prop := ∀ c ∈ cs, OnC c ∧ SmC m c
theorem NwI.ok {m : Nat} {cs : List Ct} (h : NwI m cs) (hm : m ≤ 1000000000) : ∀ c ∈ cs, StepOK c := fun c hc => sm_ok (h c hc).1 (h c hc).2 hm
theorem NwI.start {n : Nat} {L : List Fr} (hL : ∀ F ∈ L, Good F) : NwI 0 (gvL n L) := fun c hc => by
  unfold gvL at hc
  rcases List.mem_append.1 hc with h | h
  · obtain ⟨F, hF, rfl⟩ := List.mem_map.1 h
    exact ⟨on_give OnC.start (hL F hF) rfl, sm_give sm_start F⟩
  · rw [(List.mem_replicate.1 h).2]
    exact ⟨OnC.start, sm_start⟩
theorem NwI.step {m : Nat} {cs ds : List Ct} (h : NwI m cs) (cr : List Bool) (x : Bool) (l : List Int) (hl : ds.length = cs.length) (hd : ∀ j c, cs[j]? = some c → ds[j]? = some (nxC cr x l j c)) : NwI (m + 1) ds := fun d hdm => by
  obtain ⟨j, hj⟩ := List.getElem?_of_mem hdm
  obtain ⟨c, hc⟩ : ∃ c, cs[j]? = some c := ⟨_, List.getElem?_eq_getElem (by rw [← hl]; exact (List.getElem?_eq_some_iff.1 hj).1)⟩
  have e := hd j c hc
  rw [hj] at e
  cases e
  obtain ⟨h1, h2⟩ := h c (List.mem_of_getElem? hc)
  unfold nxC
  split
  · exact ⟨h1, h2.mono (Nat.le_succ _)⟩
  · exact ⟨(on_step h1 _).on, sm_step h1 h2 _⟩

/-- Which nodes are crashed: the first k. -/
def crK (k n : Nat) : List Bool := List.replicate k true ++ List.replicate n false
theorem crK_len (k n : Nat) : (crK k n).length = k + n := by unfold crK; simp
theorem crK_lo {k n j : Nat} (h : j < k) : (crK k n)[j]? = some true := by
  unfold crK
  rw [List.getElem?_append_left (by simpa using h), List.getElem?_replicate, if_pos h]
theorem crK_hi {k n j : Nat} (h : j < n) : (crK k n)[j + k]? = some false := by
  unfold crK
  rw [List.getElem?_append_right (by simp), List.length_replicate, Nat.add_sub_cancel, List.getElem?_replicate, if_pos h]
theorem crK_set {k n i : Nat} (h : i < k + n) : (crK i (k + n - i)).set i true = crK (i + 1) (k + n - (i + 1)) := by
  apply List.ext_getElem?
  intro j
  have hl : (crK i (k + n - i)).length = k + n := by rw [crK_len]; omega
  by_cases hj : j < k + n
  · rw [List.getElem?_set]
    by_cases e : i = j
    · subst e
      rw [if_pos rfl, if_pos (by omega), crK_lo (Nat.lt_succ_self _)]
    · rw [if_neg e]
      by_cases h1 : j < i
      · rw [crK_lo h1, crK_lo (by omega)]
      · obtain ⟨d, rfl⟩ : ∃ d, j = d + i := ⟨j - i, by omega⟩
        rw [crK_hi (by omega)]
        obtain ⟨d2, hd⟩ : ∃ d2, d + i = d2 + (i + 1) := ⟨d - 1, by omega⟩
        rw [hd, crK_hi (by omega)]
  · rw [List.getElem?_eq_none (by rw [List.length_set, hl]; omega), List.getElem?_eq_none (by rw [crK_len]; omega)]

/-- The nodes of a net, and of one that has k crashed ones ahead of them. -/
def CrP (k : Nat) (ca cb : List Ct) : Prop := cb = List.replicate k c0 ++ ca
section
variable {k n : Nat} {ca cb : List Ct}
theorem CrP.len (h : CrP k ca cb) : cb.length = k + ca.length := by rw [h]; simp
theorem CrP.lo (h : CrP k ca cb) {j : Nat} (hj : j < k) : cb[j]? = some c0 := by
  rw [h, List.getElem?_append_left (by simpa using hj), List.getElem?_replicate, if_pos hj]
theorem CrP.hi (h : CrP k ca cb) (j : Nat) : cb[j + k]? = ca[j]? := by
  rw [h, List.getElem?_append_right (by simp), List.length_replicate, Nat.add_sub_cancel]
/-- The bits on both busses are the same. -/
theorem CrP.bus (h : CrP k ca cb) (hn : ca.length = n) : (dvL cb (crK k n)).all id = (dvL ca (List.replicate n false)).all id := by
  rw [h]
  unfold dvL crK
  rw [List.zipWith_append (by simp), List.all_append]
  have e : (List.zipWith (fun c x => x || dvC c) (List.replicate k c0) (List.replicate k true)).all id = true := by simp [quN]
  rw [e, Bool.true_and]
theorem CrP.drove (h : CrP k ca cb) (hn : ca.length = n) {i : Nat} (hi : i < n) : (dvL cb (crK k n))[i + k]? = (dvL ca (List.replicate n false))[i]? := by
  have hc := List.getElem?_eq_getElem (show i < ca.length by omega)
  have h1 := dvL_at ((h.hi i).trans hc) (crK_hi (k := k) hi)
  have h2 := dvL_at hc (show (List.replicate n false)[i]? = some false by rw [List.getElem?_replicate, if_pos hi])
  rw [h1, h2]
theorem CrP.rec (h : CrP k ca cb) (hn : ca.length = n) {i : Nat} (hi : i < k) : (dvL cb (crK k n))[i]? = some true := by
  have := dvL_at (h.lo hi) (crK_lo (n := n) hi)
  rw [Bool.true_or] at this
  exact this
/-- Flips, and the same further on. -/
theorem bi_shift {x : Bool} {fl : List Int} {i k : Nat} : biN x (fl.map (· + (k : Int))) (i + k) = biN x fl i := by
  unfold biN
  congr 1
  apply decide_eq_decide.2
  rw [List.mem_map]
  constructor
  · rintro ⟨y, hy, e⟩
    have : y = (i : Int) := by omega
    rw [← this]; exact hy
  · intro hy
    exact ⟨_, hy, by omega⟩
theorem nx_shift {x : Bool} {fl : List Int} {i : Nat} {c : Ct} (hi : i < n) : nxC (crK k n) x (fl.map (· + (k : Int))) (i + k) c = nxC (List.replicate n false) x fl i c := by
  unfold nxC
  rw [crK_hi hi, bi_shift, List.getElem?_replicate, if_pos hi]
theorem hp_shift {x : Bool} {fl : List Int} {i : Nat} {c : Ct} (hi : i < n) : hpC (crK k n) x (fl.map (· + (k : Int))) (i + k) c = hpC (List.replicate n false) x fl i c := by
  unfold hpC
  rw [crK_hi hi, bi_shift, List.getElem?_replicate, if_pos hi]
theorem nx_crashed {x : Bool} {l : List Int} {i : Nat} {c : Ct} (hi : i < k) : nxC (crK k n) x l i c = c := by
  unfold nxC; rw [crK_lo hi]; rfl
theorem hp_crashed {x : Bool} {l : List Int} {i : Nat} {c : Ct} (hi : i < k) : hpC (crK k n) x l i c = noH := by
  unfold hpC; rw [crK_lo hi]; rfl
/-- A bit, in both. -/
theorem CrP.step (h : CrP k ca cb) (hn : ca.length = n) {x : Bool} {fl : List Int} {da db : List Ct} (ha : da.length = n) (hb : db.length = k + n)
    (h1 : ∀ j c, ca[j]? = some c → da[j]? = some (nxC (List.replicate n false) x fl j c)) (h2 : ∀ j c, cb[j]? = some c → db[j]? = some (nxC (crK k n) x (fl.map (· + (k : Int))) j c)) : CrP k da db := by
  unfold CrP
  apply List.ext_getElem?
  intro j
  by_cases hj : j < k
  · rw [h2 j c0 (h.lo hj), nx_crashed hj, List.getElem?_append_left (by simpa using hj), List.getElem?_replicate, if_pos hj]
  · obtain ⟨i, rfl⟩ : ∃ i, j = i + k := ⟨j - k, by omega⟩
    rw [List.getElem?_append_right (by simp), List.length_replicate, Nat.add_sub_cancel]
    by_cases hi : i < n
    · have hc := List.getElem?_eq_getElem (show i < ca.length by omega)
      rw [h1 i _ hc, h2 (i + k) _ ((h.hi i).trans hc), nx_shift hi]
    · rw [List.getElem?_eq_none (by omega), List.getElem?_eq_none (by omega)]
/-- What happens, in both. -/
theorem CrP.hap (h : CrP k ca cb) (hn : ca.length = n) {x : Bool} {fl : List Int} {ha hb : List Hp} 
    (h1 : ∀ j c, ca[j]? = some c → ha[j]? = some (hpC (List.replicate n false) x fl j c)) (h2 : ∀ j c, cb[j]? = some c → hb[j]? = some (hpC (crK k n) x (fl.map (· + (k : Int))) j c)) :
    (∀ i, i < n → hb[i + k]? = ha[i]?) ∧ ∀ i, i < k → hb[i]? = some noH := by
  refine ⟨fun i hi => ?_, fun i hi => ?_⟩
  · have hc := List.getElem?_eq_getElem (show i < ca.length by omega)
    rw [h1 i _ hc, h2 (i + k) _ ((h.hi i).trans hc), hp_shift hi]
  · rw [h2 i c0 (h.lo hi), hp_crashed hi]
/-- Whether it is quiet, in both. -/
theorem CrP.quiet (h : CrP k ca cb) (hn : ca.length = n) : quA cb (crK k n) = quA ca (List.replicate n false) := by
  rw [h]
  unfold quA crK
  rw [List.zipWith_append (by simp), List.all_append]
  have e : (List.zipWith quN (List.replicate k c0) (List.replicate k true)).all id = true := by simp [quN]
  rw [e, Bool.true_and]
end
/-- Frames given to the nodes behind the crashed ones. -/
theorem cr_given {k n i : Nat} {fs : List Fr} {F : Fr} (hi : i < n) (hF : fs[i]? = some F) : (List.replicate k c0 ++ gvL n (fs.take i)).set (i + k) { c0 with has := true, give := F } = List.replicate k c0 ++ gvL n (fs.take (i + 1)) := by
  rw [List.set_append_right _ _ (by simp), List.length_replicate, Nat.add_sub_cancel, gvL_set hi hF]
theorem cr_none (k n : Nat) : List.replicate (k + n) c0 = List.replicate k c0 ++ gvL n [] := by
  unfold gvL
  rw [List.map_nil, List.nil_append, List.length_nil, Nat.sub_zero, List.replicate_append_replicate]
end Go.Proofs.YtgpmhmdofefdcaaGreat

namespace Go.Proofs.YtgpmhmdofefdcaaGreat
open Go.RowKit Go.Sort
set_option linter.unusedVariables false
set_option linter.unusedSimpArgs false

set_option maxRecDepth 100000 in
set_option maxHeartbeats 4000000 in
theorem netGive_down (w : World) (s : Na) (ps : List Nd) (cr : List Bool) (n : Nat) (z : Int) (k : Nat) (fa : Array Value) (h : NtR w s ps cr) (hm : cr.length = n) (hle : n ≤ 100000) (hk : k < n) (hcr : cr[k]? = some true) :
    Calls Tryz.prog 10 #[.agg (ntA s n n z), .int .i64 (k : Int), .agg fa] w fun e w' => e = .returned (.tuple #[.agg (ntA s n n z), .int .i64 2]) ∧ Below w.heap.size w w' := by
  have hb0 : (((w.alloc (.cells (ntA s n n z) 31)).alloc (.cells fa 26)).alloc (.cells ntZ 31)).heap[w.heap.size]? = some (.cells (ntA s n n z) 31 (0, 0)) := bx_alloc _ (bx_alloc _ (heap_alloc_new w _))
  have hr0 : (((w.alloc (.cells (ntA s n n z) 31)).alloc (.cells fa 26)).alloc (.cells ntZ 31)).heap[w.heap.size + 2]? = some (.cells ntZ 31 (0, 0)) := by
    have := heap_alloc_new ((w.alloc (.cells (ntA s n n z) 31)).alloc (.cells fa 26)) (.cells ntZ 31); rwa [heap_size_alloc, heap_size_alloc] at this
  have g0 : Below w.heap.size w (((w.alloc (.cells (ntA s n n z) 31)).alloc (.cells fa 26)).alloc (.cells ntZ 31)) := bnew (bnew (bnew0 w _) _) _
  have hU := fun w1 (g1 : Below w.heap.size w w1) => up_any w1 s n cr z (k : Int) (h.cra.below g1) (by omega) (by omega)
  have hup : upB n cr (k : Int) = false := by
    unfold upB
    rw [Int.toNat_natCast, hcr]; simp; omega
  rw [hup, hm] at hU
  clear hup hcr h
  go_enter Tryz.func10, Tryz.ntmps10
  go_wp2_with (first
    | (with_reducible refine wpList_loadR rowN rfl _ rfl _ rfl hb0 rfl ?_)
    | (go_at_call 30; (with_reducible refine (hU _ g0).mono ?_); rintro e w1 ⟨rfl, g1⟩
       have hb1 := bx_below hb0 g1
       have hr1 := bx_below hr0 g1
       have gg1 := bstep g0 g1)
    | (with_reducible refine wpList_loadR rowN rfl _ rfl _ rfl hb1 rfl ?_)
    | (with_reducible refine wpList_storeR rowN rfl _ _ rfl _ _ rfl rfl hr1 rfl rfl (nt_ones _ _ _ _) ?_))
  exact bodyPost_ret (v := .tuple #[.agg (ntA s n n z), .int .i64 2]) (results_row1 rowN rfl _ _ _ rfl rfl (setRow_heap _ _ _ _ _ _ hr1) rfl) rfl ⟨rfl, below_setRow gg1 (by omega) _⟩

/-- Two nets, each in its box, apart from one another. -/
structure Nb2 (w : World) (gA n : Nat) (zA : Int) (sA : Na) (pA : List Nd) (cA : List Bool) (gB m : Nat) (zB : Int) (sB : Na) (pB : List Nd) (cB : List Bool) : Prop where
  a : Nb w gA n zA sA pA cA
  b : Nb w gB m zB sB pB cB
  fa : NtF gB sA pA
  fb : NtF gA sB pB
  ne : gA ≠ gB
section
variable {w w1 : World} {gA n : Nat} {zA : Int} {sA : Na} {pA : List Nd} {cA : List Bool} {gB m : Nat} {zB : Int} {sB : Na} {pB : List Nd} {cB : List Bool}
theorem Nb2.below (h : Nb2 w gA n zA sA pA cA gB m zB sB pB cB) (k : Below w.heap.size w w1) : Nb2 w1 gA n zA sA pA cA gB m zB sB pB cB := ⟨h.a.below k, h.b.below k, h.fa, h.fb, h.ne⟩
theorem Nb2.putA (h : Nb2 w gA n zA sA pA cA gB m zB sB pB cB) (k : Below w.heap.size w w1) {B : Nat} {s : Na} {ps : List Nd} {cr : List Bool} (o : NtO B w1 s ps cr) (hA : gA < B) (hB : gB < B) (hl : ps.length = n) (hc : cr.length = n) (z : Int) :
    Nb2 (w1.setRow gA (ntA s n n z)) gA n z s ps cr gB m zB sB pB cB :=
  ⟨Nb.put (bx_below h.a.box k) o (o.freeLo hA) hl hc, (h.b.below k).other h.ne h.fb _, o.freeLo hB, h.fb, h.ne⟩
theorem Nb2.putB (h : Nb2 w gA n zA sA pA cA gB m zB sB pB cB) (k : Below w.heap.size w w1) {B : Nat} {s : Na} {ps : List Nd} {cr : List Bool} (o : NtO B w1 s ps cr) (hA : gA < B) (hB : gB < B) (hl : ps.length = m) (hc : cr.length = m) (z : Int) :
    Nb2 (w1.setRow gB (ntA s m m z)) gA n zA sA pA cA gB m z s ps cr :=
  ⟨(h.a.below k).other (fun e => h.ne e.symm) h.fa _, Nb.put (bx_below h.b.box k) o (o.freeLo hB) hl hc, h.fa, o.freeLo hA, h.ne⟩
end
theorem crK_setN {N i : Nat} (h : i < N) : (crK i (N - i)).set i true = crK (i + 1) (N - (i + 1)) := crK_set (k := N) (n := 0) h
theorem crK_none (N : Nat) : List.replicate N false = crK 0 (N - 0) := rfl
theorem shr_zero {n : Nat} : ∀ c ∈ List.replicate n c0, Shr c := fun c hc => by
  rw [(List.mem_replicate.1 hc).2]
  exact ⟨by simp [c0, zeroFr], by simp [c0], by simp [c0, s0]⟩
theorem shr_cr {k n : Nat} {L : List Fr} (hL : ∀ F ∈ L, Good F) : ∀ c ∈ List.replicate k c0 ++ gvL n L, Shr c := fun c hc => (List.mem_append.1 hc).elim (shr_zero c) (gvL_shr hL)
end Go.Proofs.YtgpmhmdofefdcaaGreat

namespace Go.Proofs.YtgpmhmdofefdcaaGreat
open Go.RowKit Go.Sort
set_option linter.unusedVariables false
set_option linter.unusedSimpArgs false

section
variable {ops : Array Oper} {rest : List Oper} {o : Oper} {a : Act} {C : World → Prop} {Q : Act → Prop} {T : TypeId} {n : Nat}
/-- An element is loaded whole, in a region whose operations only read. -/
theorem quiet_loadM (hT : RowT Tryz.prog T n) (hw : Region.wanted o (yielded ops a.tmps) = true) (x : Operand) (ho : o.op = .load T x) (b off : Nat) (hx : a.eval x = .pointer (some ⟨b, off, none⟩)) (cs : Array Value)
    (hg : ∀ w, C w → w.rangeAt b off cs.toList) (hn : cs.size = n) (h : wpQuiet Tryz.prog ops C Q rest (a.put o.dst (.agg cs))) : wpQuiet Tryz.prog ops C Q (o :: rest) a := by
  obtain ⟨d, hu, hd⟩ := hT.und
  refine wpQuiet_step fun K hK => ?_
  rw [if_pos hw]
  refine ⟨.agg cs, fun w hw => ?_, hK _ h⟩
  have e := run_loadVar_mid (P := Tryz.prog) w b off T cs.toList d (hg w hw) hu (by cases d <;> simp_all) (by rw [hT.size, Array.length_toList, hn])
  rw [Array.toArray_toList] at e
  unfold Oper.quietAt execOp
  simp only [ho, hx, Instr.loadAt, Instr.sureAddr, Sem.run_bind, Sem.run_pure, Result.andThen_ok, e]
  exact ⟨rfl, rfl⟩
end

theorem put_lit9 (l : List Value) (d : List Deferred) (n : Nat) (v : Value) : Act.put ⟨l.toArray, d⟩ (some n) v = ⟨(l.set n v).toArray, d⟩ := by
  simp [Act.put]

theorem range_grown {w : World} {b off : Nat} {vs : List Value} (h : w.rangeAt b off vs) : ∀ w', (∃ p : Regrown, w' = grow (redrawn w p.d) p.os) → w'.rangeAt b off vs := by
  rintro w' ⟨p, rfl⟩ j v hv
  exact cell_regrown (h j v hv) _ _

theorem bx4c {w : World} {g : Nat} {E : TypeId} {v0 v1 v2 v3 : Value} (h : w.heap[g]? = some (.cells #[v0, v1, v2, v3] E (0, 0))) :
    w.cell? ⟨g, 0, none⟩ = some v0 ∧ w.cell? ⟨g, 1, none⟩ = some v1 ∧ w.cell? ⟨g, 2, none⟩ = some v2 ∧ w.cell? ⟨g, 3, none⟩ = some v3 :=
  ⟨by rw [cell_of_row w g 0 _ _ _ h]; rfl, by rw [cell_of_row w g 1 _ _ _ h]; rfl, by rw [cell_of_row w g 2 _ _ _ h]; rfl, by rw [cell_of_row w g 3 _ _ _ h]; rfl⟩
theorem bx3c {w : World} {g : Nat} {E : TypeId} {v0 v1 v2 : Value} (h : w.heap[g]? = some (.cells #[v0, v1, v2] E (0, 0))) :
    w.cell? ⟨g, 0, none⟩ = some v0 ∧ w.cell? ⟨g, 1, none⟩ = some v1 ∧ w.cell? ⟨g, 2, none⟩ = some v2 :=
  ⟨by rw [cell_of_row w g 0 _ _ _ h]; rfl, by rw [cell_of_row w g 1 _ _ _ h]; rfl, by rw [cell_of_row w g 2 _ _ _ h]; rfl⟩

section
variable {B : Nat} {w : World}
theorem NtO.nodRange {s : Na} {ps : List Nd} {cr : List Bool} (h : NtO B w s ps cr) (hn : 0 < ps.length) : ∃ g, s.na = some ⟨g, 0, none⟩ ∧ ∀ (j : Nat) (p : Nd), ps[j]? = some p → w.rangeAt g (j * 26) (ctA p.1 p.2).toList := by
  obtain ⟨g, hg, _, _⟩ := h.nod.addr hn
  have hp := h.nod
  rw [hg] at hp
  exact ⟨g, hg, fun j p hj => hp.range enC_k hj⟩
theorem LnO.hapRange {a : La} {n : Nat} {dl sm : List Bool} {hs : List Hd} (h : LnO B w a n dl sm hs) (hn : 0 < n) : ∃ g, a.ha = some ⟨g, 0, none⟩ ∧ ∀ (j : Nat) (d : Hd), hs[j]? = some d → w.rangeAt g (j * 6) (hapA d.1 d.2.1 d.2.2).toList := by
  obtain ⟨g, hg, _, _⟩ := h.hap.addr hn
  have hp := h.hap
  rw [hg] at hp
  exact ⟨g, hg, fun j d hj => hp.range enH_k hj⟩
end

/-- What both say of one node at a bit. -/
theorem crash_node {k n i N : Nat} {ca cb : List Ct} (h : CrP k ca cb) (hn : ca.length = n) (hN : N = k + n) (hi : i < n) {x : Bool} {fl : List Int} {ha hb : List Hd}
    (r4 : ∀ j c, ca[j]? = some c → (ha.map Prod.fst)[j]? = some (hpC (List.replicate n false) x fl j c)) (u4 : ∀ j c, cb[j]? = some c → (hb.map Prod.fst)[j]? = some (hpC (crK k n) x (fl.map (· + (k : Int))) j c)) :
    (∃ d, (dvL ca (List.replicate n false))[i]? = some d ∧ (dvL cb (crK k n))[i + k]? = some d) ∧ (∃ d, (smL n x fl)[i]? = some d ∧ (smL N x (fl.map (· + (k : Int))))[i + k]? = some d) ∧
    (∃ p q, ha[i]? = some p ∧ hb[i + k]? = some q ∧ p.1 = q.1) := by
  refine ⟨?_, ⟨biN x fl i, smL_at hi, by rw [smL_at (by omega), bi_shift]⟩, ?_⟩
  · have h1 := h.drove hn hi
    have hc := List.getElem?_eq_getElem (show i < ca.length by omega)
    have h3 := dvL_at hc (show (List.replicate n false)[i]? = some false by rw [List.getElem?_replicate, if_pos hi])
    exact ⟨_, h3, h1.trans h3⟩
  · have h1 := (h.hap hn (ha := ha.map Prod.fst) (hb := hb.map Prod.fst) r4 u4).1 i hi
    have hc := List.getElem?_eq_getElem (show i < ca.length by omega)
    have h3 := r4 i _ hc
    rw [h3] at h1
    rw [List.getElem?_map] at h1 h3
    cases hp : ha[i]? with
    | none => rw [hp] at h3; cases h3
    | some p =>
      cases hq : hb[i + k]? with
      | none => rw [hq] at h1; cases h1
      | some q =>
        rw [hp] at h3
        rw [hq] at h1
        simp only [Option.map_some, Option.some.injEq] at h1 h3
        exact ⟨p, q, rfl, rfl, h3.trans h1.symm⟩
/-- .. and of their controllers. -/
theorem crash_ctl {k i : Nat} {qa qb : List Nd} (h : CrP k (cts qa) (cts qb)) {p : Nd} (hp : qa[i]? = some p) : ∃ t, qb[i + k]? = some (p.1, t) := by
  have h1 := h.hi i
  unfold cts at h1
  rw [List.getElem?_map, List.getElem?_map, hp] at h1
  cases hq : qb[i + k]? with
  | none => rw [hq] at h1; cases h1
  | some q =>
    rw [hq] at h1
    simp only [Option.map_some, Option.some.injEq] at h1
    exact ⟨q.2, by rw [← h1]⟩
/-- Of a crashed one. -/
theorem crash_down {k n i : Nat} {ca cb : List Ct} (h : CrP k ca cb) (hn : ca.length = n) (hi : i < k) {x : Bool} {l : List Int} {hb : List Hd}
    (u4 : ∀ j c, cb[j]? = some c → (hb.map Prod.fst)[j]? = some (hpC (crK k n) x l j c)) : (dvL cb (crK k n))[i]? = some true ∧ (hb.map Prod.fst)[i]? = some noH :=
  ⟨h.rec hn hi, by rw [u4 i c0 (h.lo hi), hp_crashed hi]⟩

theorem ct_cells {w : World} {b o : Nat} {c : Ct} {s : Sl} (hr : w.rangeAt b o (ctA c s).toList) :
    (∀ d os, (grow (redrawn w d) os).cell? ⟨b, o, none⟩ = some (.int .u8 (c.ph : Int))) ∧
    (∀ d os, (grow (redrawn w d) os).cell? ⟨b, o + 1, none⟩ = some (.int .i64 (c.n : Int))) ∧
    (∀ d os, (grow (redrawn w d) os).cell? ⟨b, o + 2, none⟩ = some (.int .i64 c.cf.t)) ∧
    (∀ d os, (grow (redrawn w d) os).cell? ⟨b, o + 3, none⟩ = some (.int .i64 c.cf.r)) ∧
    (∀ d os, (grow (redrawn w d) os).cell? ⟨b, o + 4, none⟩ = some (.bool c.cf.o)) ∧
    (∀ d os, (grow (redrawn w d) os).cell? ⟨b, o + 5, none⟩ = some (.int .i64 c.cf.n)) ∧
    (∀ d os, (grow (redrawn w d) os).cell? ⟨b, o + 6, none⟩ = some (.int .i64 c.cf.m)) ∧
    (∀ d os, (grow (redrawn w d) os).cell? ⟨b, o + 7, none⟩ = some (.bool c.has)) ∧
    (∀ d os, (grow (redrawn w d) os).cell? ⟨b, o + 8, none⟩ = some (.int .u32 (c.give.id : Int))) ∧
    (∀ d os, (grow (redrawn w d) os).cell? ⟨b, o + 9, none⟩ = some (.bool c.give.ext)) ∧
    (∀ d os, (grow (redrawn w d) os).cell? ⟨b, o + 10, none⟩ = some (.bool c.give.rem)) ∧
    (∀ d os, (grow (redrawn w d) os).cell? ⟨b, o + 11, none⟩ = some (.int .u8 (c.give.dlc : Int))) ∧
    (∀ d os, (grow (redrawn w d) os).cell? ⟨b, o + 12, none⟩ = some (.slice s.da c.give.data.length s.dc)) ∧
    (∀ d os, (grow (redrawn w d) os).cell? ⟨b, o + 13, none⟩ = some (.bool c.sends)) ∧
    (∀ d os, (grow (redrawn w d) os).cell? ⟨b, o + 14, none⟩ = some (.bool c.sender)) ∧
    (∀ d os, (grow (redrawn w d) os).cell? ⟨b, o + 15, none⟩ = some (.slice s.wa c.wire.length s.wc)) ∧
    (∀ d os, (grow (redrawn w d) os).cell? ⟨b, o + 16, none⟩ = some (.int .i64 (c.pos : Int))) ∧
    (∀ d os, (grow (redrawn w d) os).cell? ⟨b, o + 17, none⟩ = some (.bool c.tk.b)) ∧
    (∀ d os, (grow (redrawn w d) os).cell? ⟨b, o + 18, none⟩ = some (.int .u8 (c.tk.m : Int))) ∧
    (∀ d os, (grow (redrawn w d) os).cell? ⟨b, o + 19, none⟩ = some (.slice s.ta c.tk.l.length s.tc)) ∧
    (∀ d os, (grow (redrawn w d) os).cell? ⟨b, o + 20, none⟩ = some (.int .u8 (c.tk.p : Int))) ∧
    (∀ d os, (grow (redrawn w d) os).cell? ⟨b, o + 21, none⟩ = some (.bool c.tk.fi)) ∧
    (∀ d os, (grow (redrawn w d) os).cell? ⟨b, o + 22, none⟩ = some (.bool c.rl)) ∧
    (∀ d os, (grow (redrawn w d) os).cell? ⟨b, o + 23, none⟩ = some (.int .u8 (c.rm : Int))) ∧
    (∀ d os, (grow (redrawn w d) os).cell? ⟨b, o + 24, none⟩ = some (.bool c.err)) ∧
    (∀ d os, (grow (redrawn w d) os).cell? ⟨b, o + 25, none⟩ = some (.bool c.owed)) :=
  ⟨fun d os => cell_regrown (hr 0 _ rfl) d os, fun d os => cell_regrown (hr 1 _ rfl) d os, fun d os => cell_regrown (hr 2 _ rfl) d os, fun d os => cell_regrown (hr 3 _ rfl) d os, fun d os => cell_regrown (hr 4 _ rfl) d os, fun d os => cell_regrown (hr 5 _ rfl) d os, fun d os => cell_regrown (hr 6 _ rfl) d os, fun d os => cell_regrown (hr 7 _ rfl) d os, fun d os => cell_regrown (hr 8 _ rfl) d os, fun d os => cell_regrown (hr 9 _ rfl) d os, fun d os => cell_regrown (hr 10 _ rfl) d os, fun d os => cell_regrown (hr 11 _ rfl) d os, fun d os => cell_regrown (hr 12 _ rfl) d os, fun d os => cell_regrown (hr 13 _ rfl) d os, fun d os => cell_regrown (hr 14 _ rfl) d os, fun d os => cell_regrown (hr 15 _ rfl) d os, fun d os => cell_regrown (hr 16 _ rfl) d os, fun d os => cell_regrown (hr 17 _ rfl) d os, fun d os => cell_regrown (hr 18 _ rfl) d os, fun d os => cell_regrown (hr 19 _ rfl) d os, fun d os => cell_regrown (hr 20 _ rfl) d os, fun d os => cell_regrown (hr 21 _ rfl) d os, fun d os => cell_regrown (hr 22 _ rfl) d os, fun d os => cell_regrown (hr 23 _ rfl) d os, fun d os => cell_regrown (hr 24 _ rfl) d os, fun d os => cell_regrown (hr 25 _ rfl) d os⟩
theorem hap_cells {w : World} {b o : Nat} {h : Hp} {a : Option Addr} {c : Nat} (hr : w.rangeAt b o (hapA h a c).toList) :
    (∀ d os, (grow (redrawn w d) os).cell? ⟨b, o, none⟩ = some (.int .u8 (h.1 : Int))) ∧
    (∀ d os, (grow (redrawn w d) os).cell? ⟨b, o + 1, none⟩ = some (.int .u32 (h.2.id : Int))) ∧
    (∀ d os, (grow (redrawn w d) os).cell? ⟨b, o + 2, none⟩ = some (.bool h.2.ext)) ∧
    (∀ d os, (grow (redrawn w d) os).cell? ⟨b, o + 3, none⟩ = some (.bool h.2.rem)) ∧
    (∀ d os, (grow (redrawn w d) os).cell? ⟨b, o + 4, none⟩ = some (.int .u8 (h.2.dlc : Int))) ∧
    (∀ d os, (grow (redrawn w d) os).cell? ⟨b, o + 5, none⟩ = some (.slice a h.2.data.length c)) :=
  ⟨fun d os => cell_regrown (hr 0 _ rfl) d os, fun d os => cell_regrown (hr 1 _ rfl) d os, fun d os => cell_regrown (hr 2 _ rfl) d os, fun d os => cell_regrown (hr 3 _ rfl) d os, fun d os => cell_regrown (hr 4 _ rfl) d os, fun d os => cell_regrown (hr 5 _ rfl) d os⟩
end Go.Proofs.YtgpmhmdofefdcaaGreat
