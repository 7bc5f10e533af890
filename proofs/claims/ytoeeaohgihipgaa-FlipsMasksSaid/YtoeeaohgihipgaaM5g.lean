/-
  Plain mathematics of layer 5: how many bits a mask has.
-/
import Derived.Test.YtoeeaohgihipgaaM5f
import Derived.Test.YtoeeaohgihipgaaB5r
namespace Go.Proofs.Ytoeeaohgihipgaa

theorem popN_mask {l : List Fl} (hs : Sor l) (hf : AllF l) (t : Int) : popN (maskL l t) = (atL l t).length := by
  have e : ((List.range 32).filter (maskL l t).testBit).map (fun j => ((t, j) : Fl)) = atL l t := by
    refine sor_ext ?_ (sor_filter hs _) fun x => ?_
    · refine List.pairwise_map.2 ((List.Pairwise.sublist List.filter_sublist (List.pairwise_lt_range (n := 32))).imp fun h => ?_)
      exact (ltF_iff _ _).2 (.inr ⟨rfl, h⟩)
    · obtain ⟨s, u⟩ := x
      simp only [List.mem_map, List.mem_filter, List.mem_range, maskL_bit, decide_eq_true_eq, mem_atL, Prod.mk.injEq]
      constructor
      · rintro ⟨j, ⟨_, hj⟩, rfl, rfl⟩
        exact ⟨hj, rfl⟩
      · rintro ⟨hm, rfl⟩
        exact ⟨u, ⟨by have := (isF_iff _).1 (hf _ hm); simp only at this; omega, hm⟩, rfl, rfl⟩
  rw [← e, List.length_map]
  unfold popN
  rw [List.countP_eq_length_filter]
end Go.Proofs.Ytoeeaohgihipgaa
