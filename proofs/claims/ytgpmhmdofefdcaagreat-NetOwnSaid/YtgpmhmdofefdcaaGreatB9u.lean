/-
  Laws on slices of structs: cuts as equations, a list appended that may be empty.
  Contract: the statements' own 'apart', walked: right frames, none of the key of another.
  Words for the statement NetOrder: a net that lies beside a row; a frame beside what happened.
-/
import Derived.Test.YtgpmhmdofefdcaaGreatB1f
import Derived.Deep.Upon
import Derived.Test.YtgpmhmdofefdcaaGreatM9m
import Derived.Test.YtgpmhmdofefdcaaGreatB9s
import Derived.Test.YtgpmhmdofefdcaaGreatB9q
namespace Go.Proofs.YtgpmhmdofefdcaaGreat
open Go.RowKit Go.Sort
set_option linter.unusedVariables false

theorem step_appgK {P : Program} {T E : TypeId} {k : Nat} {z : Value} {bytes : Nat} {α : Type} {enc : α → List Value} {B : Nat} {w : World} {a : Option Addr} {n c : Nat} {l m : List α} {ops : Array Oper} {o : Oper} {ac : Act} {K : Act → World → Prop} {Q : Exit → Act → World → Prop} {R : Prop}
    (hT : ElK P T E k z bytes) (hk : EnK enc k) (hgd : o.guard = none) (s x : Operand)
    (ho : o.op = .call { callee := .builtin .append, args := #[s, x], argTypes := #[T, T] })
    {a2 : Option Addr} {n2 c2 : Nat} (hs : ac.eval s = .slice a n c) (hown : OK enc k E B w a n c l) (hx : ac.eval x = .slice a2 n2 c2) (hr : RK enc k w a2 n2 c2 m) (h0 : 0 < n2)
    (h63 : n + n2 ≤ 1000000000) (hby : bytes ≤ 64) (hbase : B ≤ w.heap.size)
    (h : ∀ w' a' c', OK enc k E B w' a' (n + n2) c' (l ++ m) → Below B w w' → (∀ q, q < w.heap.size → NB a q → w'.heap[q]? = w.heap[q]? ∧ NB a' q) → w.heap.size ≤ w'.heap.size → K (ac.put o.dst (.slice a' (n + n2) c')) w') :
    if Region.wanted o (yielded ops ac.tmps) = true then Oper.wp P o ac w K Q else R := by
  rw [if_pos (by simp [Region.wanted, hgd])]
  exact wp_appgK hT hk s x ho hs hown hx hr h0 h63 hby hbase h

section
variable {α : Type} {enc : α → List Value} {k : Nat} {T E : TypeId} {z : Value} {bytes : Nat} {w : World} {P : Program} {l : List α} {n c : Nat} {a : Option Addr}

theorem cutTo_eq (hT : ElK P T E k z bytes) (hr : RK enc k w a n c l) (kh : IntKind) (h0 : Nat) (h2 : h0 ≤ n) :
    ∃ a', (∀ w', (Instr.sliceAt T (.slice a n c) none (some (.int kh (h0 : Int))) none).run P w' = .ok (.slice a' h0 c) w') ∧ RK enc k w a' h0 c (l.take h0) := by
  obtain ⟨a', he, hr'⟩ := hr.sliced 0 h0 k rfl (Nat.zero_le _) h2
  have hu : P.underlying T = some (.slice (P.elem T)) := by rw [hT.und, hT.el]
  refine ⟨a', fun w' => ?_, by simpa using hr'⟩
  have hrun := run_slice_h (P := P) w' T a n c hu kh h0 (by omega) (by have := hr.cap; omega)
  simp only [Int.toNat_natCast, run_sizeOf_k hT, Result.andThen] at hrun
  rw [run_sliceAt_slice w' T _ _ _ _ hu, hrun, he]; simp

theorem cutFrom_eq (hT : ElK P T E k z bytes) (hr : RK enc k w a n c l) (kl : IntKind) (l0 : Nat) (h2 : l0 ≤ n) :
    ∃ a', (∀ w', (Instr.sliceAt T (.slice a n c) (some (.int kl (l0 : Int))) none none).run P w' = .ok (.slice a' (n - l0) (c - l0)) w') ∧ RK enc k w a' (n - l0) (c - l0) (l.drop l0) := by
  obtain ⟨a', he, hr'⟩ := hr.sliced l0 n k rfl h2 (Nat.le_refl _)
  rw [← hr.len, List.take_length, hr.len] at hr'
  have hu : P.underlying T = some (.slice (P.elem T)) := by rw [hT.und, hT.el]
  refine ⟨a', fun w' => ?_, hr'⟩
  have hrun := run_slice_l (P := P) w' T a n c hu kl l0 (by omega) (by omega)
  simp only [Int.toNat_natCast, run_sizeOf_k hT, Result.andThen] at hrun
  rw [run_sliceAt_slice w' T _ _ _ _ hu, hrun, he]

theorem src_none {size : Nat} {tx e' : TypeId} (hk : P.underlying tx = some (.slice e')) (a : Option Addr) (c : Nat) : Src P size tx (.slice a 0 c) 0 [] w := by
  cases a with
  | none => exact Src.ofNil w hk c
  | some a => exact Src.ofSlice w hk a 0 c [] (by simp) (fun j u h => by simp at h) (fun u h => by cases h)

/-- The begin of a row of the call's own. -/
theorem OK.takeB {g B b : Nat} (hk : EnK enc k) (h : OK enc k E B w (some ⟨g, 0, none⟩) n c l) (hb : b ≤ n) : OK enc k E B w (some ⟨g, 0, none⟩) b c (l.take b) := by
  have hl := h.len
  have hc := h.cap
  rcases h.ex with ⟨h0, _⟩ | ⟨g', cur, h1, h2, h3, h4, h5, h6⟩
  · cases h0
  · cases h1
    have hll : (l.take b).length = b := by rw [List.length_take]; omega
    refine ⟨hll, by omega, by rw [flat_len hk, hll], .inr ⟨g, c, cur, rfl, h2, h3, by omega, h6, h4, ?_⟩⟩
    have e : l.flatMap enc = (l.take b).flatMap enc ++ (l.drop b).flatMap enc := by rw [← List.flatMap_append, List.take_append_drop]
    have hle : b * k ≤ n * k := Nat.mul_le_mul_right k hb
    have : cur.toList.take (b * k) = (cur.toList.take (n * k)).take (b * k) := by rw [List.take_take, Nat.min_eq_left hle]
    rw [this, h5, e]
    exact List.take_left' (by rw [flat_len hk, hll])
theorem cutTo_own {g b : Nat} (hT : ElK P T E k z bytes) (kh : IntKind) (hc : n ≤ c) (hb : b ≤ n) :
    ∀ w', (Instr.sliceAt T (.slice (some ⟨g, 0, none⟩) n c) none (some (.int kh (b : Int))) none).run P w' = .ok (.slice (some ⟨g, 0, none⟩) b c) w' := fun w' => by
  have hu : P.underlying T = some (.slice (P.elem T)) := by rw [hT.und, hT.el]
  have hrun := run_slice_h (P := P) w' T (some ⟨g, 0, none⟩) n c hu kh b (by omega) (by omega)
  simp only [Int.toNat_natCast, run_sizeOf_k hT, Result.andThen] at hrun
  rw [run_sliceAt_slice w' T _ _ _ _ hu, hrun]
  simp [sliced, Addr.add]

/-- A list appended, that may be empty; what becomes of other blocks. -/
theorem step_appgKk {m : List α} {B : Nat} {ops : Array Oper} {o : Oper} {ac : Act} {K : Act → World → Prop} {Q : Exit → Act → World → Prop} {R : Prop}
    (hT : ElK P T E k z bytes) (hk : EnK enc k) (hgd : o.guard = none) (s x : Operand)
    (ho : o.op = .call { callee := .builtin .append, args := #[s, x], argTypes := #[T, T] })
    {a2 : Option Addr} {n2 c2 : Nat} (hs : ac.eval s = .slice a n c) (hown : OK enc k E B w a n c l) (hx : ac.eval x = .slice a2 n2 c2) (hr : RK enc k w a2 n2 c2 m)
    (h63 : n + n2 ≤ 1000000000) (hby : bytes ≤ 64) (hbase : B ≤ w.heap.size)
    (h : ∀ w' a' c', OK enc k E B w' a' (n + n2) c' (l ++ m) → Below B w w' → (∀ q, q < w.heap.size → NB a q → w'.heap[q]? = w.heap[q]? ∧ NB a' q) → w.heap.size ≤ w'.heap.size → K (ac.put o.dst (.slice a' (n + n2) c')) w') :
    if Region.wanted o (yielded ops ac.tmps) = true then Oper.wp P o ac w K Q else R := by
  by_cases h0 : 0 < n2
  · exact step_appgK hT hk hgd s x ho hs hown hx hr h0 h63 hby hbase h
  · obtain rfl : n2 = 0 := by omega
    obtain rfl : m = [] := List.length_eq_zero_iff.1 hr.len
    rw [if_pos (by simp [Region.wanted, hgd])]
    obtain ⟨i, hi, hz0, hz1, hz2⟩ := info_parts hT.info
    have hrun := run_append_nothing (P := P) w T T o.type E i hT.und hi a n c hown.cap (.slice a2 0 c2) (src_none hT.und a2 c2)
    unfold Oper.wp execOp
    simp only [ho, resolve, invoke, builtin, Sem.run_bind, Sem.run_pure, Result.andThen_ok, List.map_toArray, List.map_cons, List.map_nil, hs, hx, hrun]
    exact h w a c (by rw [List.append_nil]; exact hown) (Below.refl _ _) (fun q _ hn => ⟨rfl, hn⟩) (Nat.le_refl _)
/-- A list appended, that may be empty. -/
theorem step_appgK0 {m : List α} {B : Nat} {ops : Array Oper} {o : Oper} {ac : Act} {K : Act → World → Prop} {Q : Exit → Act → World → Prop} {R : Prop}
    (hT : ElK P T E k z bytes) (hk : EnK enc k) (hgd : o.guard = none) (s x : Operand)
    (ho : o.op = .call { callee := .builtin .append, args := #[s, x], argTypes := #[T, T] })
    {a2 : Option Addr} {n2 c2 : Nat} (hs : ac.eval s = .slice a n c) (hown : OK enc k E B w a n c l) (hx : ac.eval x = .slice a2 n2 c2) (hr : RK enc k w a2 n2 c2 m)
    (h63 : n + n2 ≤ 1000000000) (hby : bytes ≤ 64) (hbase : B ≤ w.heap.size)
    (h : ∀ w' a' c', OK enc k E B w' a' (n + n2) c' (l ++ m) → Below B w w' → w.heap.size ≤ w'.heap.size → K (ac.put o.dst (.slice a' (n + n2) c')) w') :
    if Region.wanted o (yielded ops ac.tmps) = true then Oper.wp P o ac w K Q else R :=
  step_appgKk hT hk hgd s x ho hs hown hx hr h63 hby hbase fun w' a' c' o1 g1 _ z1 => h w' a' c' o1 g1 z1
/-- The same, in order. -/
theorem wpList_appgK0 {m : List α} {B : Nat} {ops : Array Oper} {rest : List Oper} {o : Oper} {ac : Act} {Q : Exit → Act → World → Prop}
    (hT : ElK P T E k z bytes) (hk : EnK enc k) (hgd : o.guard = none) (s x : Operand)
    (ho : o.op = .call { callee := .builtin .append, args := #[s, x], argTypes := #[T, T] })
    {a2 : Option Addr} {n2 c2 : Nat} (hs : ac.eval s = .slice a n c) (hown : OK enc k E B w a n c l) (hx : ac.eval x = .slice a2 n2 c2) (hr : RK enc k w a2 n2 c2 m)
    (h63 : n + n2 ≤ 1000000000) (hby : bytes ≤ 64) (hbase : B ≤ w.heap.size)
    (h : ∀ w' a' c', OK enc k E B w' a' (n + n2) c' (l ++ m) → Below B w w' → (∀ q, q < w.heap.size → NB a q → w'.heap[q]? = w.heap[q]? ∧ NB a' q) → w.heap.size ≤ w'.heap.size → wpList P ops Q rest (ac.put o.dst (.slice a' (n + n2) c')) w') :
    wpList P ops Q (o :: rest) ac w :=
  wpList_step fun _ hK => step_appgKk hT hk hgd s x ho hs hown hx hr h63 hby hbase fun w' a' c' o1 g1 k1 z1 => hK _ _ (h w' a' c' o1 g1 k1 z1)
end
end Go.Proofs.YtgpmhmdofefdcaaGreat

namespace Go.Proofs.YtgpmhmdofefdcaaGreat
open Go.RowKit Go.Sort
set_option linter.unusedVariables false
set_option linter.unusedSimpArgs false

theorem good_id {F : Fr} (h : Good F) : F.id < 4294967296 := by have := h.id; split at this <;> omega
theorem good_dlc {F : Fr} (h : Good F) : F.dlc < 256 := by have := h.dlc; omega
/-- Which of two right frames goes on, by their keys. -/
theorem before9 (w : World) (F G : Fr) (a b : Option Addr) (c d : Nat) (hF : Good F) (hG : Good G) :
    Calls Tryz.prog 19 #[.agg (frV F a c), .agg (frV G b d)] w fun e w' => e = .returned (.bool (decide (kyO F < kyO G))) ∧ Below w.heap.size w w' := by
  have := before_any w F.id F.ext F.rem F.dlc a F.data.length c G.id G.ext G.rem G.dlc b G.data.length d (good_id hF) (good_dlc hF) (good_id hG) (good_dlc hG)
  rwa [(good_iff F _ rfl).2 hF, (good_iff G _ rfl).2 hG, Bool.true_and, Bool.true_and, key_before] at this

/-- Whether a frame is right, and of another key than the first ones. -/
def vA (F : Fr) (gs : List Ff) (i : Nat) : Bool := riF F.id F.ext F.rem F.dlc F.data.length && (gs.take i).all fun q => !decide (kyO q.1 = kyO F)
theorem vA_zero (F : Fr) (gs : List Ff) : vA F gs 0 = riF F.id F.ext F.rem F.dlc F.data.length := by unfold vA; simp
theorem vA_step {F : Fr} {gs : List Ff} {i : Nat} {q : Ff} (hq : gs[i]? = some q) : vA F gs (i + 1) = (vA F gs i && !decide (kyO q.1 = kyO F)) := by
  unfold vA
  rw [List.take_add_one, hq, List.all_append, Bool.and_assoc]
  simp
theorem vA_all {F : Fr} {gs : List Ff} (h : vA F gs gs.length = true) : Good F ∧ ∀ q ∈ gs, kyO F ≠ kyO q.1 := by
  unfold vA at h
  rw [Bool.and_eq_true, List.take_length, List.all_eq_true] at h
  exact ⟨(good_iff F _ rfl).1 h.1, fun q hq e => by have := h.2 q hq; simp [e] at this⟩
theorem vA_good {F : Fr} {gs : List Ff} {i : Nat} (h : vA F gs i = true) : Good F := by
  unfold vA at h
  rw [Bool.and_eq_true] at h
  exact (good_iff F _ rfl).1 h.1

/-- What 'apart' answers. -/
def ApR (w : World) (fs : List Ff) (m : Nat) (e : Ending) (w' : World) : Prop := ∃ a' c' gs, e = .returned (.slice a' gs.length c') ∧ OK enF 5 26 w.heap.size w' a' gs.length c' gs ∧ ApI fs gs ∧ gs.length ≤ m ∧ Below w.heap.size w w'

abbrev frZ9 : Array Value := #[.int .u32 0, .bool false, .bool false, .int .u8 0, .slice none 0 0]
theorem elF9 : ElK Tryz.prog 22 26 5 (.agg frZ9) 32 := ⟨by kernel_rfl, by kernel_rfl, by kernel_rfl, by kernel_rfl, rfl, by omega⟩
theorem put_no9t (a : Act) (v : Value) : a.put none v = a := rfl

set_option maxRecDepth 100000 in
set_option maxHeartbeats 8000000 in
theorem apart9_any (w : World) (a : Option Addr) (n c : Nat) (fs : List Ff) (h : FrR w a n c fs) (m : Nat) (hm : m ≤ 100) (hn : n ≤ 9223372036854775807) :
    Calls Tryz.prog 5 #[.slice a n c, .int .i64 (m : Int)] w (ApR w fs m) := by
  have O0 : OK enF 5 26 w.heap.size w none 0 0 [] := OK.nil _ _ _ _ _
  go_enter Tryz.func5, Tryz.ntmps5
  go_wp2_with fail
  go_loopg [5, 13] n (fun gn s5 s13 wr => ∃ (k : Nat) (a5 : Option Addr) (n5 c5 : Nat) (gs : List Ff), k ≤ n ∧ gn = n - k ∧ s13 = .int .i64 (k : Int) ∧ s5 = .slice a5 n5 c5 ∧ Hid (gs.length = n5) ∧ OK enF 5 26 w.heap.size wr a5 n5 c5 gs ∧ Hid (ApI fs gs) ∧ n5 ≤ m ∧ Below w.heap.size w wr)
  case atStart => exact ⟨0, none, 0, 0, [], by omega, by omega, rfl, rfl, hid rfl, O0, hid (ApI.nil _), by omega, Below.refl _ _⟩
  case round =>
    obtain ⟨k, a5, n5, c5, gs, hk, rfl, rfl, rfl, HGL, O, HA, hgm, gg⟩ := hrel
    clear O0
    by_cases hlt : k < n
    · obtain ⟨p, hp⟩ : ∃ p, fs[k]? = some p := ⟨_, List.getElem?_eq_getElem (by rw [h.row.len]; exact hlt)⟩
      have hpm : p ∈ fs := List.mem_of_getElem? hp
      obtain ⟨gb, off, rfl, hgb, hrg⟩ := (h.row.below gg).range hp
      have b2 := heap_alloc_new wr (.cells frZ9 26)
      have k2 : Below wr.heap.size wr ((wr.alloc (.cells frZ9 26)).setRow wr.heap.size (frV p.1 p.2.1 p.2.2)) := below_setRow (bnew0 wr _) (Nat.le_refl _) _
      have b3 : ((wr.alloc (.cells frZ9 26)).setRow wr.heap.size (frV p.1 p.2.1 p.2.2)).heap[wr.heap.size]? = some (.cells (frV p.1 p.2.1 p.2.2) 26 (0, 0)) := setRow_heap _ _ _ _ _ _ b2
      have hRi := fun w' => frRight_any w' p.1.id p.1.ext p.1.rem p.1.dlc p.2.1 p.1.data.length p.2.2 (h.id p hpm) (h.dl p hpm)
      rw [← vA_zero p.1 gs] at hRi
      have HPM := hid hpm
      clear hp hpm
      go_upto_region 5 with (first
        | (with_reducible refine wpList_loadM rowF rfl _ rfl _ _ rfl (frV p.1 p.2.1 p.2.2) hrg rfl ?_)
        | (with_reducible refine wpList_storeR rowF rfl _ _ rfl _ _ rfl rfl b2 rfl rfl (fr_ones _ _ _) ?_))
      have O2 := O.below k2
      have gg2 := bstep gg k2
      clear O gg b2 k2 hrg
      generalize (wr.alloc (.cells frZ9 26)).setRow wr.heap.size (frV p.1 p.2.1 p.2.2) = V at *
      generalize wr.heap.size = fb at *
      try rw [put_no9t]
      try rw [put_no9t]
      change Code.wp _ _ _ _ V
      by_cases hem : n5 = m
      · have hq : ((n5 : Int) == (m : Int)) = true := by rw [hem]; simp
        clear hem hRi
        go_wp2_with fail
        go_ret
        have := HGL.out
        subst this
        exact ⟨a5, c5, gs, rfl, O2, HA.out, hgm, gg2⟩
      · have hqn : ((n5 : Int) == (m : Int)) = false := by simp; omega
        have hem2 : n5 + 1 ≤ m := by omega
        clear hem
        go_wp2_with (first
          | (with_reducible refine wpList_loadR rowF rfl _ rfl _ rfl b3 rfl ?_)
          | (go_at_call 18; (with_reducible refine (hRi _).mono ?_); rintro e w4 ⟨rfl, g4⟩))
        have O4 := O2.below g4
        have gg4 := bstep gg2 g4
        have b4 := bx_below b3 g4
        have hnb : n5 ≤ 100 := by omega
        clear O2 gg2 b3 hRi g4 hqn
        clear V
        generalize hv0 : vA p.1 gs 0 = v0 at *
        have HV0 : Hid (v0 = vA p.1 gs 0) := hid hv0.symm
        clear hv0
        go_loopg [8, 25] n5 (fun gn s8 s25 wr => ∃ (i : Nat) (v : Bool), i ≤ n5 ∧ gn = n5 - i ∧ s25 = .int .i64 (i : Int) ∧ s8 = .bool v ∧ Hid (v = vA p.1 gs i) ∧ wr.heap[fb]? = some (.cells (frV p.1 p.2.1 p.2.2) 26 (0, 0)) ∧ OK enF 5 26 w.heap.size wr a5 n5 c5 gs ∧ Below w.heap.size w wr)
        case atStart => exact ⟨0, v0, by omega, by omega, rfl, rfl, HV0, b4, O4, gg4⟩
        case round =>
          obtain ⟨i, v, hi, rfl, rfl, rfl, HV, b5, O5, gg5⟩ := hrel
          clear b4 O4 gg4 HV0
          by_cases hlt2 : i < n5
          · obtain ⟨q, hq2⟩ : ∃ q, gs[i]? = some q := ⟨_, List.getElem?_eq_getElem (by have := HGL.out; omega)⟩
            have hqg : Good q.1 := HA.out.good q (List.mem_of_getElem? hq2)
            obtain ⟨gb2, off2, rfl, hgb2, hrg2⟩ := (O5.rk enF_k).range hq2
            have c2 := heap_alloc_new wr (.cells frZ9 26)
            have l2 : Below wr.heap.size wr ((wr.alloc (.cells frZ9 26)).setRow wr.heap.size (frV q.1 q.2.1 q.2.2)) := below_setRow (bnew0 wr _) (Nat.le_refl _) _
            have c3 : ((wr.alloc (.cells frZ9 26)).setRow wr.heap.size (frV q.1 q.2.1 q.2.2)).heap[wr.heap.size]? = some (.cells (frV q.1 q.2.1 q.2.2) 26 (0, 0)) := setRow_heap _ _ _ _ _ _ c2
            have HVS : Hid (vA p.1 gs (i + 1) = (v && !decide (kyO q.1 = kyO p.1))) := hid (by rw [HV.out]; exact vA_step hq2)
            have HQG := hid hqg
            clear hq2 hqg
            go_upto_region 10 with (first
              | (with_reducible refine wpList_loadM rowF rfl _ rfl _ _ rfl (frV q.1 q.2.1 q.2.2) hrg2 rfl ?_)
              | (with_reducible refine wpList_storeR rowF rfl _ _ rfl _ _ rfl rfl c2 rfl rfl (fr_ones _ _ _) ?_))
            have b6 := bx_below b5 l2
            have O6 := O5.below l2
            have gg6 := bstep gg5 l2
            clear b5 O5 gg5 c2 l2 hrg2
            generalize (wr.alloc (.cells frZ9 26)).setRow wr.heap.size (frV q.1 q.2.1 q.2.2) = V at *
            generalize wr.heap.size = gb3 at *
            try rw [put_no9t]
            try rw [put_no9t]
            change Code.wp _ _ _ _ V
            cases v with
            | false =>
              have HVn : Hid (false = vA p.1 gs (i + 1)) := hid (by rw [HVS.out]; rfl)
              clear HVS HV
              go_wp2_with fail
              go_roundg (n5 - (i + 1))
              case measure => omega
              case rel => exact ⟨i + 1, false, by omega, rfl, by go_num, rfl, HVn, b6, O6, gg6⟩
            | true =>
              have hpg : Good p.1 := vA_good HV.out.symm
              have hB1 := fun w' => before9 w' p.1 q.1 p.2.1 q.2.1 p.2.2 q.2.2 hpg HQG.out
              have hB2 := fun w' => before9 w' q.1 p.1 q.2.1 p.2.1 q.2.2 p.2.2 HQG.out hpg
              have HVn : Hid ((decide (kyO p.1 < kyO q.1) || decide (kyO q.1 < kyO p.1)) = vA p.1 gs (i + 1)) := hid (by
                rw [HVS.out, Bool.true_and]
                generalize kyO p.1 = x
                generalize kyO q.1 = y
                rcases Nat.lt_trichotomy x y with e | e | e
                · rw [decide_eq_true e, decide_eq_false (show ¬ y = x by omega)]; rfl
                · subst e; simp
                · rw [decide_eq_true e, decide_eq_false (show ¬ y = x by omega)]; simp)
              clear HVS HV hpg
              generalize decide (kyO p.1 < kyO q.1) = t1 at *
              generalize decide (kyO q.1 < kyO p.1) = t2 at *
              cases t1 with
              | true =>
                go_wp2_with (first
                  | (with_reducible refine wpList_loadW rowF (by simp [Region.wanted, yielded, Act.put]) _ rfl fb rfl b6 rfl ?_)
                  | (with_reducible refine wpList_loadW rowF (by simp [Region.wanted, yielded, Act.put]) _ rfl gb3 rfl c3 rfl ?_)
                  | (go_at_call 19; (with_reducible refine (hB1 _).mono ?_); rintro e w7 ⟨rfl, g7⟩))
                go_roundg (n5 - (i + 1))
                case measure => omega
                case rel => exact ⟨i + 1, true, by omega, rfl, by go_num, rfl, HVn, bx_below b6 g7, O6.below g7, bstep gg6 g7⟩
              | false =>
                go_wp2_with (first
                  | (with_reducible refine wpList_loadW rowF (by simp [Region.wanted, yielded, Act.put]) _ rfl fb rfl b6 rfl ?_)
                  | (with_reducible refine wpList_loadW rowF (by simp [Region.wanted, yielded, Act.put]) _ rfl gb3 rfl c3 rfl ?_)
                  | (go_at_call 19; (with_reducible refine (hB1 _).mono ?_); rintro e w7 ⟨rfl, g7⟩; have b7 := bx_below b6 g7; have c7 := bx_below c3 g7)
                  | (with_reducible refine wpList_loadW rowF (by simp [Region.wanted, yielded, Act.put]) _ rfl fb rfl b7 rfl ?_)
                  | (with_reducible refine wpList_loadW rowF (by simp [Region.wanted, yielded, Act.put]) _ rfl gb3 rfl c7 rfl ?_)
                  | (go_at_call 19; (with_reducible refine (hB2 _).mono ?_); rintro e w8 ⟨rfl, g8⟩))
                go_roundg (n5 - (i + 1))
                case measure => omega
                case rel => exact ⟨i + 1, t2, by omega, rfl, by go_num, rfl, HVn, bx_below b7 g8, (O6.below g7).below g8, bstep (bstep gg6 g7) g8⟩
          · obtain rfl : n5 = i := by omega
            cases v with
            | false =>
              go_wp2_with fail
              go_roundg (n - (k + 1))
              case measure => omega
              case rel => exact ⟨k + 1, a5, n5, c5, gs, by omega, rfl, by go_num, rfl, HGL, O5, HA, by omega, gg5⟩
            | true =>
              have hA2 : ApI fs (gs ++ [p]) := by
                obtain ⟨h1, h2⟩ := vA_all (F := p.1) (gs := gs) (by rw [HGL.out]; exact HV.out.symm)
                exact HA.out.put HPM.out h1 h2
              have HA2 := hid hA2
              clear hA2
              have hba : ∀ o, w.heap.size ≤ (wr.alloc o).heap.size := fun o => by rw [heap_size_alloc]; have := gg5.size; omega
              have hown := O5.alloc (.cells (frV p.1 p.2.1 p.2.2) 26)
              have hsrc := (ok_lit enF_k 26 0 wr [p] (frV p.1 p.2.1 p.2.2) 1 rfl rfl (by omega) (Nat.zero_le _)).rk enF_k
              go_wp2_with (first
                | (with_reducible refine wpList_loadR rowF rfl _ rfl _ rfl b5 rfl ?_)
                | (with_reducible refine wpList_appgK elF9 enF_k rfl _ _ rfl rfl hown rfl hsrc (by omega) (by omega) (by omega) (hba _) ?_; intro w7 a7 c7 o7 g7 k7 z7))
              go_roundg (n - (k + 1))
              case measure => omega
              case rel => exact ⟨k + 1, a7, n5 + 1, c7, gs ++ [p], by omega, rfl, by go_num, rfl, hid (by rw [List.length_append, HGL.out]; rfl), o7, HA2, by omega, gg5.trans (((Below.refl _ wr).alloc gg5.size _).trans g7)⟩
    · obtain rfl : n = k := by omega
      go_wp2_with fail
      go_ret
      have := HGL.out
      subst this
      exact ⟨a5, c5, gs, rfl, O, HA.out, hgm, gg⟩
end Go.Proofs.YtgpmhmdofefdcaaGreat

namespace Go.Proofs.YtgpmhmdofefdcaaGreat
open Go.RowKit Go.Sort
set_option linter.unusedVariables false
set_option linter.unusedSimpArgs false

theorem NdR.ok {B : Fr} {jw i : Nat} {gs : List (Option Fr)} {l : List Ct} (h : NdR B jw i gs l) (hB : Good B) (ho : ∀ (j : Nat) (g : Option Fr), gs[j]? = some g → NodeOK B g (decide (j = jw))) (hi : i < (putL (boL B)).length + 13) : ∀ (j : Nat) (c : Ct), l[j]? = some c → StepOK c := fun j c hc => by
  have hj : j < gs.length := by rw [← h.len]; exact (List.getElem?_eq_some_iff.1 hc).1
  have hg := List.getElem?_eq_getElem hj
  exact ro_ok hB cfA_zero (ho j _ hg) hi (h.ro j c _ hc hg)

section
variable {B : Nat} {w w1 : World} {g n : Nat} {z : Int} {s : Na} {ps : List Nd} {cr : List Bool} {q : Nat}
/-- Another block has changed. -/
theorem NtO.keptF (h : NtO B w s ps cr) (hf : NtF q s ps) (hk : ∀ b, b < w.heap.size → b ≠ q → w1.heap[b]? = w.heap[b]?) : NtO B w1 s ps cr :=
  ⟨h.nod.kept fun b hb => hk b (h.nod.ltB hb).1 (hf.na _ hb), h.cra.kept fun b hb => hk b (h.cra.ltB hb).1 (hf.ca _ hb), fun p hp => (h.sl p hp).kept fun b => by
    by_cases e : b = q
    · subst e; exact .inl (hf.sl p hp)
    · by_cases hb : b < w.heap.size
      · exact .inr (hk b hb e)
      · exact .inl ((h.sl p hp).fresh (by omega)), h.sn, h.sc⟩
theorem Nb.keptF (h : Nb w g n z s ps cr) (hf : NtF q s ps) (hq : q ≠ g) (hk : ∀ b, b < w.heap.size → b ≠ q → w1.heap[b]? = w.heap[b]?) : Nb w1 g n z s ps cr :=
  ⟨(hk g h.lt (fun e => hq e.symm)).trans h.box, h.own.keptF hf hk, h.free, h.len, h.cln⟩
end

theorem rowCf9 : RowT Tryz.prog 48 5 := rowT_of (by kernel_rfl) (by kernel_rfl)
theorem same9 (w : World) (F : Fr) (a b : Option Addr) (c d : Nat) (h : RL bv w a F.data.length c F.data) (k : RL bv w b F.data.length d F.data) :
    Calls Tryz.prog 16 #[.agg (frV F a c), .agg (frV F b d)] w fun e w' => e = .returned (.bool true) ∧ Below w.heap.size w w' := by
  have := sameFrame_any w F.id F.ext F.rem F.dlc a F.data.length c F.data F.id F.ext F.rem F.dlc b F.data.length d F.data h k
  rwa [decide_eq_true rfl] at this

/-- The rest of what is told at a bit. -/
theorem seO_zero (P i jw : Nat) : seO P i jw 0 = 0 := by unfold seO; rw [if_neg (by omega)]
theorem toO_zero (P i jw : Nat) : toO P i jw 0 = 0 := by unfold toO; split <;> (try split) <;> omega
theorem seO_step {P i jw j : Nat} : seO P i jw (j + 1) = if j = jw ∧ i = P + 9 then seO P i jw j + 1 else seO P i jw j := by
  unfold seO
  repeat' split
  all_goals omega
theorem toO_step {P i jw j : Nat} : toO P i jw (j + 1) = if j ≠ jw ∧ i = P + 8 then toO P i jw j + 1 else toO P i jw j := by
  unfold toO
  repeat' split
  all_goals omega
theorem seO_le (P i jw j : Nat) : seO P i jw j ≤ 1 := by unfold seO; split <;> omega
theorem toO_le (P i jw j : Nat) : toO P i jw j ≤ j := by unfold toO; (repeat' split) <;> omega
end Go.Proofs.YtgpmhmdofefdcaaGreat
