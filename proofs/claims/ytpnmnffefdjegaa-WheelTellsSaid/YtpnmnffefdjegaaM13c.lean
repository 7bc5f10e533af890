/-
  Timers of even numbers alone: what of a wheel they are, and that all that is done with them goes on alike.
-/
import Derived.Test.YtpnmnffefdjegaaM13b
namespace Go.Proofs.Ytpnmnffefdjegaa
open Go.RowKit Go.Maps
set_option linter.unusedVariables false

def evL (L : List Tm) : List Tm := L.filter (fun p => p.1 % 2 == 0)
def evI (l : List Int) : List Int := l.filter (fun x => x % 2 == 0)

/-- The second wheel holds just the timers of even numbers of the first one. -/
structure CaM (m m2 : Wh) : Prop where
  now : m2.now = m.now
  mo1 : m.most = 64
  mo2 : m2.most = 64
  ev : m2.L = evL m.L
  hi : ∀ p ∈ m.L, p.1 ≤ 63

section
variable {m m2 : Wh} {L : List Tm} {id v after : Int} {t t2 : List Int}
theorem ev_out (L : List Tm) (id : Int) : evL (outL L id) = outL (evL L) id := by
  unfold evL outL
  rw [List.filter_filter, List.filter_filter]
  exact List.filter_congr (fun p _ => Bool.and_comm _ _)
theorem ev_out_odd (h : id % 2 ≠ 0) : evL (outL L id) = evL L := by
  rw [ev_out]
  unfold outL evL
  refine List.filter_eq_self.2 (fun p hp => ?_)
  have h2 : p.1 % 2 = 0 := by simpa using (List.mem_filter.1 hp).2
  have : p.1 ≠ id := fun e => h (e ▸ h2)
  simp [this]
theorem ev_put (h : id % 2 = 0) : evL (L ++ [(id, v)]) = evL L ++ [(id, v)] := by simp [evL, h]
theorem ev_put_odd (h : id % 2 ≠ 0) : evL (L ++ [(id, v)]) = evL L := by simp [evL, h]
theorem ev_has (h : id % 2 = 0) : hasL (evL L) id = hasL L id := by
  unfold hasL evL
  rw [List.any_filter]
  congr 1
  funext p
  by_cases e : p.1 = id
  · simp [e, h]
  · simp [e]
theorem ev_has_odd (h : id % 2 ≠ 0) : hasL (evL L) id = false := by
  rw [hasL_not]
  unfold ids evL
  intro hm
  obtain ⟨p, hp, e⟩ := List.mem_map.1 hm
  have h2 : p.1 % 2 = 0 := by simpa using (List.mem_filter.1 hp).2
  exact h (e ▸ h2)
theorem ev_due (h : id % 2 = 0) : dueL (evL L) id = dueL L id := by
  unfold dueL evL
  congr 2
  induction L with
  | nil => rfl
  | cons p L ih =>
    by_cases e : p.1 = id
    · have : p.1 % 2 = 0 := e ▸ h
      simp [e, h]
    · by_cases e2 : p.1 % 2 = 0
      · simp [e, e2]; simpa [e] using ih
      · simp [e, e2]; simpa using ih

theorem nodup_short {l : List Int} {n : Nat} (hn : l.Nodup) (hr : ∀ x ∈ l, 0 ≤ x ∧ x < (n : Int)) : l.length ≤ n := by
  have h1 : l ⊆ (List.range n).map (fun (k : Nat) => (k : Int)) := fun x hx => by
    obtain ⟨a, b⟩ := hr x hx
    exact List.mem_map.2 ⟨x.toNat, List.mem_range.2 (by omega), by omega⟩
  have := hn.length_le_of_subset h1
  simpa using this
/-- There is always room. -/
theorem calm_room (hI : WhI m) (h64 : m.most = 64) (hi : ∀ p ∈ m.L, p.1 ≤ 63) (h0 : 0 ≤ id) (h1 : id ≤ 63) : fullW m id = false := by
  unfold fullW
  cases hh : hasL m.L id
  · simp only [Bool.not_false, Bool.true_and, decide_eq_false_iff_not]
    intro e
    have hn : (id :: ids m.L).Nodup := List.nodup_cons.2 ⟨hasL_not.1 hh, hI.key⟩
    have := nodup_short (n := 64) hn (fun x hx => by
      rcases List.mem_cons.1 hx with rfl | hx
      · omega
      · obtain ⟨p, hp, rfl⟩ := List.mem_map.1 hx
        have := (hI.rng p hp).1; have := hi p hp; omega)
    simp [ids] at this
    omega
  · rfl
theorem calm_set (hI : WhI m) (h64 : m.most = 64) (hi : ∀ p ∈ m.L, p.1 ≤ 63) (h0 : 0 ≤ id) (h1 : id ≤ 63) (a1 : 1 ≤ after) (a2 : after ≤ 1099511627776) : setC m id after = 0 ∧ setW m id after = putW m id after := by
  have hb : badA id after = false := by simp [badA]; omega
  have hf := calm_room hI h64 hi h0 h1
  exact ⟨by simp [setC, hb, hf], by simp [setW, hb, hf]⟩
theorem hi_out (hi : ∀ p ∈ L, p.1 ≤ 63) : ∀ p ∈ outL L id, p.1 ≤ 63 := fun p hp => hi p (mem_outL.1 hp).1
theorem hi_put (hi : ∀ p ∈ L, p.1 ≤ 63) (h1 : id ≤ 63) : ∀ p ∈ outL L id ++ [(id, v)], p.1 ≤ 63 := fun p hp => by
  rcases List.mem_append.1 hp with hp | hp
  · exact hi_out hi p hp
  · simp at hp; subst hp; exact h1
theorem CaM.hi2 (h : CaM m m2) : ∀ p ∈ m2.L, p.1 ≤ 63 := fun p hp => by rw [h.ev] at hp; exact h.hi p (List.mem_filter.1 hp).1
theorem CaM.put (h : CaM m m2) (h1 : id ≤ 63) (he : id % 2 = 0) : CaM (putW m id after) (putW m2 id after) :=
  ⟨h.now, h.mo1, h.mo2, by show outL m2.L id ++ [(id, m2.now + after)] = evL (outL m.L id ++ [(id, m.now + after)]); rw [ev_put he, ev_out, h.ev, h.now], hi_put h.hi h1⟩
theorem CaM.put1 (h : CaM m m2) (h1 : id ≤ 63) (he : id % 2 ≠ 0) : CaM (putW m id after) m2 :=
  ⟨h.now, h.mo1, h.mo2, by show m2.L = evL (outL m.L id ++ [(id, m.now + after)]); rw [ev_put_odd he, ev_out_odd he, h.ev], hi_put h.hi h1⟩
theorem CaM.cut (h : CaM m m2) (id : Int) : CaM (cutW m id) (cutW m2 id) := ⟨h.now, h.mo1, h.mo2, by show outL m2.L id = evL (outL m.L id); rw [ev_out, h.ev], hi_out h.hi⟩
theorem CaM.cut1 (h : CaM m m2) (he : id % 2 ≠ 0) : CaM (cutW m id) m2 := ⟨h.now, h.mo1, h.mo2, by show m2.L = evL (outL m.L id); rw [ev_out_odd he, h.ev], hi_out h.hi⟩
theorem CaM.tick (h : CaM m m2) : CaM (tickW m) (tickW m2) :=
  ⟨by show m2.now + 1 = m.now + 1; rw [h.now], h.mo1, h.mo2, by
    show m2.L.filter (fun p => !(p.2 == m2.now + 1)) = evL (m.L.filter (fun p => !(p.2 == m.now + 1)))
    rw [h.ev, h.now]
    unfold evL
    rw [List.filter_filter, List.filter_filter]
    exact List.filter_congr (fun p _ => Bool.and_comm _ _), fun p hp => h.hi p (List.mem_filter.1 hp).1⟩
theorem CaM.told (h : CaM m m2) (t1 : Told m t) (t2' : Told m2 t2) : t2 = evI t := by
  refine rising_eq t2'.up (t1.up.filter _) (fun i => ?_)
  unfold evI
  rw [t2'.has, List.mem_filter, t1.has, h.ev, h.now]
  unfold evL
  rw [List.mem_filter]
theorem CaM.has (h : CaM m m2) (he : id % 2 = 0) : hasL m2.L id = hasL m.L id := by rw [h.ev, ev_has he]
theorem CaM.has1 (h : CaM m m2) (he : id % 2 ≠ 0) : hasL m2.L id = false := by rw [h.ev, ev_has_odd he]
theorem CaM.left (h : CaM m m2) (he : id % 2 = 0) : leftW m2 id = leftW m id := by
  unfold leftW
  rw [h.has he, h.ev, ev_due he, h.now]
theorem CaM.len (h : CaM m m2) : m2.L.length ≤ m.L.length := by rw [h.ev]; exact List.length_filter_le ..
theorem evI_snoc {l : List Int} {j : Nat} {x : Int} (h : l[j]? = some x) : evI (l.take (j + 1)) = evI (l.take j) ++ (if x % 2 = 0 then [x] else []) := by
  unfold evI
  rw [List.take_add_one, h, List.filter_append]
  by_cases e : x % 2 = 0 <;> simp [e]
theorem evI_le (l : List Int) : (evI l).length ≤ l.length := List.length_filter_le ..
end
end Go.Proofs.Ytpnmnffefdjegaa
