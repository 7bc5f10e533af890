/-
  Words for the walks of NetOmits, NetOff and NetTwins: a net in a box beside rows that are written.
-/
import Derived.Test.YtkikppdcdfngaaaGreatB9p
namespace Go.Proofs.YtkikppdcdfngaaaGreat
open Go.RowKit Go.Sort
set_option linter.unusedVariables false

theorem tI9 : ElT Tryz.prog 60 3 (.int .i64 0) 8 := ⟨by kernel_rfl, by kernel_rfl, by kernel_rfl, by kernel_rfl, by kernel_rfl⟩

section
variable {B : Nat} {w w1 : World} {g n : Nat} {z : Int} {s : Na} {ps : List Nd} {cr : List Bool}
theorem NtO.setCellF (h : NtO B w s ps cr) (hf : NtF g s ps) (i : Nat) (v : Value) : NtO B (w.setCell ⟨g, i, none⟩ v) s ps cr :=
  ⟨h.nod.kept fun q hq => heap_setCell_other _ _ _ _ (hf.na _ hq), h.cra.kept fun q hq => heap_setCell_other _ _ _ _ (hf.ca _ hq), fun p hp => (h.sl p hp).kept fun q => by
    by_cases e : q = g
    · subst e; exact .inl (hf.sl p hp)
    · exact .inr (heap_setCell_other _ _ _ _ e), h.sn, h.sc⟩
theorem Nb.cell (h : Nb w g n z s ps cr) {q : Nat} (hq : q ≠ g) (hf : NtF q s ps) (i : Nat) (v : Value) : Nb (w.setCell ⟨q, i, none⟩ v) g n z s ps cr :=
  ⟨(heap_setCell_other _ _ _ _ (Ne.symm hq)).trans h.box, h.own.setCellF hf i v, h.free, h.len, h.cln⟩
end

/-- Which kind of node: the sender, the one that samples a bit turned about, another one. -/
def kd (q j : Nat) : Nat := if j = 0 then 0 else if j = q then 1 else 2
theorem kd_le (q j : Nat) : kd q j ≤ 2 := by unfold kd; split <;> (try split) <;> omega

theorem om_bi {F : Fr} {q i j : Nat} (hq : 1 ≤ q) : biN (omB F i) (if i = (putL (boL F)).length + 8 then [(q : Int)] else []) j = omS F i (kd q j) := by
  unfold omS
  by_cases h : i = (putL (boL F)).length + 8
  · rw [if_pos h, bi_one]
    by_cases hj : j = q
    · rw [if_pos hj, if_pos ⟨h, by unfold kd; rw [if_neg (by omega), if_pos hj]⟩]
    · rw [if_neg hj, if_neg]
      intro e
      have := e.2
      unfold kd at this
      rw [if_neg hj] at this
      split at this <;> omega
  · rw [if_neg h, bi_nil, if_neg fun e => h e.1]

theorem om_begin {F : Fr} {M q j : Nat} {c : Ct} (h : (gvL M [F])[j]? = some c) : OmC F 0 (kd q j) c := by
  have hP := P_pos F
  refine .inl ⟨by omega, .inl ⟨rfl, ?_⟩⟩
  unfold gvL at h
  match j with
  | 0 =>
    cases h
    exact ⟨giC F, rfl, rfl, rfl, rfl⟩
  | j + 1 =>
    have hk : ¬ kd q (j + 1) = 0 := by unfold kd; rw [if_neg (by omega)]; split <;> omega
    have hn : omG F (kd q (j + 1)) = none := if_neg hk
    rw [hn]
    have e : ([F].map giC ++ List.replicate (M - [F].length) c0)[j + 1]? = (List.replicate (M - 1) c0)[j]? := by simp
    rw [e, List.getElem?_replicate] at h
    split at h
    · cases h; exact ⟨c0, rfl, rfl, rfl, rfl⟩
    · cases h

/-- How often a node has taken the frame. -/
def tkV (P q j k : Nat) : Int := (if kd q j = 2 ∧ P + 8 < k then 1 else 0) + (if kd q j ≠ 0 ∧ P + 27 + (P + 8) < k then 1 else 0)
/-- The bit in which it was sent. -/
def seV (P k : Nat) : Int := if P + 27 + (P + 9) < k then ((P + 27 + (P + 9) : Nat) : Int) else -1
theorem tkV_le (P q j k : Nat) : 0 ≤ tkV P q j k ∧ tkV P q j k ≤ 2 := by unfold tkV; split <;> split <;> omega
theorem kd_zero {q j : Nat} : kd q j = 0 ↔ j = 0 := by
  unfold kd
  split
  · rename_i h; exact ⟨fun _ => h, fun _ => rfl⟩
  · rename_i h; split <;> exact ⟨fun e => by omega, fun e => absurd e h⟩
theorem om_tk (P q j k : Nat) : tkV P q j (k + 1) = if (k = P + 8 ∧ kd q j = 2) ∨ (k = P + 27 + (P + 8) ∧ kd q j ≠ 0) then tkV P q j k + 1 else tkV P q j k := by
  unfold tkV
  generalize kd q j = t
  repeat' split
  all_goals omega
theorem om_se (P k : Nat) : seV P (k + 1) = if k = P + 27 + (P + 9) then (k : Int) else seV P k := by
  unfold seV
  by_cases h : k = P + 27 + (P + 9)
  · rw [if_pos h, if_pos (by omega), h]
  · rw [if_neg h]
    by_cases h2 : P + 27 + (P + 9) < k
    · rw [if_pos h2, if_pos (by omega)]
    · rw [if_neg h2, if_neg (by omega)]
theorem om_T {P q i k h : Nat} {T : Int} (hT : T = if 1 ≤ i then seV P (k + 1) else seV P k) (h1 : h = 1 ↔ k = P + 27 + (P + 9) ∧ kd q i = 0) :
    (if h = 1 then (k : Int) else T) = if 1 ≤ i + 1 then seV P (k + 1) else seV P k := by
  rw [if_pos (show 1 ≤ i + 1 by omega), om_se]
  rw [kd_zero] at h1
  by_cases hi : i = 0
  · rw [if_neg (by omega)] at hT
    by_cases e : k = P + 27 + (P + 9)
    · rw [if_pos (h1.2 ⟨e, hi⟩), if_pos e]
    · rw [if_neg (fun x => e (h1.1 x).1), if_neg e, hT]
  · rw [if_pos (by omega), om_se] at hT
    rw [if_neg (fun x => hi (h1.1 x).2), hT]
/-- One number more, by place. -/
theorem om_put {P q i k M : Nat} {tk : List Int} (hl : tk.length = M) (h : ∀ j, j < M → tk[j]? = some (if j < i then tkV P q j (k + 1) else tkV P q j k)) (v : Int) (hv : v = tkV P q i (k + 1)) (hi : i < M) :
    ∀ j, j < M → (tk.set i v)[j]? = some (if j < i + 1 then tkV P q j (k + 1) else tkV P q j k) := fun j hj => by
  rw [List.getElem?_set]
  by_cases e : i = j
  · subst e; rw [if_pos rfl, if_pos (by omega), if_pos (by omega), hv]
  · rw [if_neg e, h j hj]
    by_cases e2 : j < i
    · rw [if_pos e2, if_pos (by omega)]
    · rw [if_neg e2, if_neg (by omega)]
theorem om_keep {P q i k M : Nat} {tk : List Int} (h : ∀ j, j < M → tk[j]? = some (if j < i then tkV P q j (k + 1) else tkV P q j k)) (hv : tkV P q i (k + 1) = tkV P q i k) :
    ∀ j, j < M → tk[j]? = some (if j < i + 1 then tkV P q j (k + 1) else tkV P q j k) := fun j hj => by
  rw [h j hj]
  by_cases e : i = j
  · subst e; rw [if_neg (by omega), if_pos (by omega), hv]
  · by_cases e2 : j < i
    · rw [if_pos e2, if_pos (by omega)]
    · rw [if_neg e2, if_neg (by omega)]
/-- A list of one frame, as it is written. -/
theorem one_frame (w : World) (F : Fr) (a : Option Addr) (c : Nat) (hi : F.id < 4294967296) (hd : F.dlc < 256) (h : RL bv w a F.data.length c F.data) :
    FrR (w.alloc (.cells (frV F a c) 34)) (some ⟨w.heap.size, 0, none⟩) 1 1 [(F, (a, c))] := by
  refine ⟨(ok_lit enF_k 34 0 w [(F, (a, c))] (frV F a c) 1 (by simp [enF]) rfl (by omega) (by omega)).rk enF_k, fun p hp => ?_, fun p hp => ?_, fun p hp => ?_⟩
  · rw [List.mem_singleton] at hp; subst hp; exact h.below (bnew0 w _)
  · rw [List.mem_singleton] at hp; subst hp; exact hi
  · rw [List.mem_singleton] at hp; subst hp; exact hd

theorem size_setRow9 (w : World) (g : Nat) (cs : Array Value) : (w.setRow g cs).heap.size = w.heap.size := by simp

end Go.Proofs.YtkikppdcdfngaaaGreat
