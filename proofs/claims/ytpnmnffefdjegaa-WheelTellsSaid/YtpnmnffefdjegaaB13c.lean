/-
  The contract of a wheel's New.
-/
import Derived.Test.YtpnmnffefdjegaaB13b
namespace Go.Proofs.Ytpnmnffefdjegaa
open Go.RowKit Go.Maps
set_option linter.unusedVariables false

abbrev mpO (o : Option Nat) : Value := .map o
theorem tMp : ElT Try.prog 56 62 (.map none) 8 := ⟨by kernel_rfl, by kernel_rfl, by kernel_rfl, by kernel_rfl, by kernel_rfl⟩

/-- While a wheel is made: i of its slots are there. -/
structure NwS (w wr : World) (n : Nat) (most : Int) (i : Nat) : Prop where
  size : wr.heap.size = w.heap.size + 3 + i
  box : wr.heap[w.heap.size + 2]? = some (.cells #[.pointer none, .int .i64 most, .int .i64 0, .map (some w.heap.size), .slice (some ⟨w.heap.size + 1, 0, none⟩) n n] 58 (0, 0))
  row : OL mpO 62 w.heap.size wr (some ⟨w.heap.size + 1, 0, none⟩) n n ((List.range i).map (fun j => some (w.heap.size + 3 + j)) ++ List.replicate (n - i) none)
  due : MI wr w.heap.size 0 (.map [])
  slo : ∀ j, j < i → MU wr (w.heap.size + 3 + j) 0 (.map [])
  bel : Below w.heap.size w wr

theorem range_set (g : Nat → Option Nat) {n i : Nat} (hi : i < n) :
    ((List.range i).map g ++ List.replicate (n - i) none).set i (g i) = (List.range (i + 1)).map g ++ List.replicate (n - (i + 1)) none := by
  have hl : ((List.range i).map g).length = i := by simp
  rw [List.set_append_right _ _ (by rw [hl]; exact Nat.le_refl i), hl, Nat.sub_self, List.range_succ, List.map_append, show n - i = (n - (i + 1)) + 1 by omega, List.replicate_succ]
  simp

section
variable {w wr : World} {n i : Nat} {most : Int}
theorem NwS.step (h : NwS w wr n most i) (hi : i < n) : NwS w ((wr.alloc (.map #[] 0)).setCell ⟨w.heap.size + 1, i, none⟩ (.map (some wr.heap.size))) n most (i + 1) := by
  have hs := h.size
  have hw : Wr (w.heap.size + 1) (wr.alloc (.map #[] 0)) ((wr.alloc (.map #[] 0)).setCell ⟨w.heap.size + 1, i, none⟩ (.map (some wr.heap.size))) := (Wr.refl _ _).setCell (p := ⟨w.heap.size + 1, i, none⟩) (.inl rfl) _
  have hk : ∀ k, k ≠ w.heap.size + 1 → k < wr.heap.size + 1 → ((wr.alloc (.map #[] 0)).setCell ⟨w.heap.size + 1, i, none⟩ (.map (some wr.heap.size))).heap[k]? = (wr.alloc (.map #[] 0)).heap[k]? := fun k hne hk => hw.block k (by rw [heap_size_alloc]; exact hk) hne
  have ho : ∀ k, k < wr.heap.size → (wr.alloc (.map #[] 0)).heap[k]? = wr.heap[k]? := fun k hk => (bnew0 wr _).block k hk
  refine ⟨?_, ?_, ?_, ?_, fun j hj => ?_, ?_⟩
  · rw [sz_set, heap_size_alloc, hs]; omega
  · rw [hk _ (by omega) (by omega), ho _ (by omega)]; exact h.box
  · have h1 := (h.row.alloc (.map #[] 0)).set (i := i) (some wr.heap.size)
    have e := range_set (fun j => some (w.heap.size + 3 + j)) hi
    rw [← e]
    simp only [hs] at h1 ⊢
    exact h1
  · exact h.due.at ((hk _ (by omega) (by omega)).trans (ho _ (by omega)))
  · by_cases e : j < i
    · exact (h.slo j e).at ((hk _ (by omega) (by omega)).trans (ho _ (by omega)))
    · obtain rfl : j = i := by omega
      have h1 : MU (wr.alloc (.map #[] 0)) wr.heap.size 0 (.map []) := World.ownsMap_made wr Try.prog 3 unitElem
      rw [hs] at h1
      rw [hs] at hk
      rw [hs]
      exact MU.at h1 (hk _ (by omega) (by omega))
  · exact (bnew h.bel _).setCell (by show w.heap.size ≤ w.heap.size + 1; omega) _

theorem NwS.fin (h : NwS w wr n most n) (h1 : 1 ≤ n) (h2 : n ≤ 1024) (h3 : 0 ≤ most) (h4 : most ≤ 1024) :
    WhO w.heap.size (wr.setCell ⟨w.heap.size + 2, 0, none⟩ (.pointer (some ⟨w.heap.size + 2, 0, none⟩))) ⟨w.heap.size + 2, w.heap.size, w.heap.size + 1, (List.range n).map (fun j => w.heap.size + 3 + j)⟩ ⟨0, most, []⟩ := by
  have hs := h.size
  have hl : ((List.range n).map (fun j => w.heap.size + 3 + j)).length = n := by simp
  have hw : Wr (w.heap.size + 2) wr (wr.setCell ⟨w.heap.size + 2, 0, none⟩ (.pointer (some ⟨w.heap.size + 2, 0, none⟩))) := (Wr.refl _ _).setCell (p := ⟨w.heap.size + 2, 0, none⟩) (.inl rfl) _
  have hk : ∀ k, k ≠ w.heap.size + 2 → k < wr.heap.size → (wr.setCell ⟨w.heap.size + 2, 0, none⟩ (.pointer (some ⟨w.heap.size + 2, 0, none⟩))).heap[k]? = wr.heap[k]? := fun k hne hk => hw.block k hk hne
  refine ⟨?_, ?_, ⟨.map [], h.due.at (hk _ (by omega) (by omega)), Due.new⟩, fun k b hb => ⟨.map [], ?_, Met.new⟩, by simp only [hl]; exact h1, by simp only [hl]; exact h2, ?_, ?_, ?_, ?_, ?_, ?_, ?_, ?_, ?_, ?_⟩
  · rw [heap_setCell_same wr _ 0 _ _ _ h.box]
    simp only [whV, hl]
    rfl
  · have hr : RL mpO wr (some ⟨w.heap.size + 1, 0, none⟩) n n ((List.range n).map (fun j => some (w.heap.size + 3 + j))) := by
      have := h.row.rl
      rw [Nat.sub_self] at this
      simpa using this
    simp only [hl]
    refine ⟨by simp, Nat.le_refl _, fun h0 => ?_⟩
    obtain ⟨b, off, ha, hlt, hc⟩ := hr.cell h0
    cases ha
    refine ⟨w.heap.size + 1, 0, rfl, by rw [sz_set]; exact hlt, fun i y hy => ?_⟩
    rw [World.cell?_of_block (w := wr) (hk _ (by show w.heap.size + 1 ≠ w.heap.size + 2; omega) hlt)]
    rw [List.getElem?_map] at hy
    cases hr2 : (List.range n)[i]? with
    | none => rw [hr2] at hy; cases hy
    | some j =>
      rw [hr2] at hy
      cases hy
      exact hc i (some (w.heap.size + 3 + j)) (by rw [List.getElem?_map, hr2]; rfl)
  · rw [List.getElem?_map] at hb
    cases hr2 : (List.range n)[k]? with
    | none => rw [hr2] at hb; cases hb
    | some j =>
      rw [hr2] at hb
      cases hb
      have hj : j < n := List.mem_range.1 (List.mem_of_getElem? hr2)
      exact MU.at (h.slo j hj) (hk (w.heap.size + 3 + j) (by omega) (by omega))
  · exact ⟨List.nodup_nil, fun p hp => (by cases hp), by show (0 : Int) ≤ 0; omega, h3, h4⟩
  · show w.heap.size + 2 ≠ w.heap.size; omega
  · show w.heap.size + 2 ≠ w.heap.size + 1; omega
  · show w.heap.size ≠ w.heap.size + 1; omega
  · intro hm; simp at hm; omega
  · intro hm; simp at hm; omega
  · intro hm; simp at hm; omega
  · show List.Nodup ((List.range n).map _)
    rw [List.nodup_iff_pairwise_ne, List.pairwise_map]
    exact (List.nodup_iff_pairwise_ne.1 List.nodup_range).imp (fun hne e => hne (by omega))
  · intro b hb
    rcases hb with e | e | e | e
    · dsimp only at e; omega
    · dsimp only at e; omega
    · dsimp only at e; omega
    · simp at e; omega
  · intro b hb
    rw [sz_set]
    rcases hb with e | e | e | e
    · dsimp only at e; omega
    · dsimp only at e; omega
    · dsimp only at e; omega
    · simp at e; omega

/-- What New answers. -/
def NewWh (w : World) (n : Nat) (most : Int) (e : Ending) (w' : World) : Prop :=
  ∃ x : Wl, e = .returned (.tuple #[.pointer (some ⟨x.g, 0, none⟩), .int .i64 0]) ∧ x.bs.length = n ∧ WhO w.heap.size w' x ⟨0, most, []⟩ ∧ Below w.heap.size w w'

set_option maxRecDepth 100000 in
set_option maxHeartbeats 4000000 in
theorem whNew_any (w : World) (n : Nat) (most : Int) (h1 : 1 ≤ n) (h2 : n ≤ 1024) (h3 : 0 ≤ most) (h4 : most ≤ 1024) :
    Calls Try.prog 9 #[.int .i64 (n : Int), .int .i64 most] w (NewWh w n most) := by
  have hmm := @run_makeMap Try.prog
  have i1 : ¬ (n : Int) < 1 := by omega
  have i2 : ¬ (1024 : Int) < (n : Int) := by omega
  have i3 : ¬ most < 0 := by omega
  have i4 : ¬ 1024 < most := by omega
  go_enter Try.func9, Try.ntmps9
  go_wp2_with (with_reducible refine wpList_mk (n := n) tMp none rfl rfl _ _ rfl _ _ .i64 .i64 rfl rfl rfl rfl (by omega) (by omega) ?_; intro w1 o1 g1 z1)
  have s1 : NwS w (w1.alloc (.cells #[.pointer none, .int .i64 most, .int .i64 0, .map (some w.heap.size), .slice (some ⟨w.heap.size + 1, 0, none⟩) n n] 58)) n most 0 := by
    rw [heap_size_alloc] at o1 z1 g1
    have b3 := heap_alloc_new w1 (.cells #[.pointer none, .int .i64 most, .int .i64 0, .map (some w.heap.size), .slice (some ⟨w.heap.size + 1, 0, none⟩) n n] 58)
    rw [z1] at b3
    refine ⟨by rw [heap_size_alloc, z1], b3, by simpa using (o1.alloc _).mono (by omega), ?_, fun j hj => absurd hj (by omega), bnew ((bnew0 w (.map #[] 0)).trans (g1.mono (by omega))) _⟩
    have h5 : MI (w.alloc (.map #[] 0)) w.heap.size 0 (.map []) := World.ownsMap_made w Try.prog 3 (plainElem Try.prog 3)
    exact (MI.at h5 (g1.block _ (by omega))).alloc _
  clear o1 g1 z1
  go_loopg [33] n (fun gn vi wr => ∃ k : Nat, k ≤ n ∧ gn = n - k ∧ vi = .int .i64 (k : Int) ∧ NwS w wr n most k)
  case atStart => exact ⟨0, by omega, by omega, rfl, s1⟩
  case round =>
    obtain ⟨k, hk, rfl, rfl, h⟩ := hrel
    clear s1
    by_cases hlt : k < n
    · have q4 := (bx5 h.box).2.2.2.2
      have h5 := h.step hlt
      have fz : (wr.alloc (.map #[] 0)).frozen? ⟨w.heap.size + 1, k, none⟩ = false := by
        obtain ⟨h0, _⟩ | ⟨g, cur, e, _, hh, _⟩ := (h.row.alloc (.map #[] 0)).ex
        · cases h0
        · cases e; exact frozen_of_row _ _ _ _ _ hh
      obtain ⟨b, off, y, e1, e2, fc⟩ := (h.row.alloc (.map #[] 0)).rl.at hlt
      cases e1
      rw [Nat.zero_add] at fc
      clear e2
      go_wp2
      go_roundg (n - (k + 1))
      case measure => omega
      case rel => exact ⟨k + 1, by omega, rfl, by go_num, h5⟩
    · obtain rfl : k = n := by omega
      have q4 : wr.frozen? ⟨w.heap.size + 1 + 1, 0, none⟩ = _ := (bx_thaw h.box 0)
      have q5 : wr.cell? ⟨w.heap.size + 1 + 1, 0, none⟩ = _ := (bx5 h.box).1
      have h5 := h.fin h1 h2 h3 h4
      have hb := h.bel
      go_wp2
      go_ret2
      exact ⟨_, rfl, by simp, h5, hb.setCell (by show w.heap.size ≤ w.heap.size + 2; omega) _⟩
end
end Go.Proofs.Ytpnmnffefdjegaa
