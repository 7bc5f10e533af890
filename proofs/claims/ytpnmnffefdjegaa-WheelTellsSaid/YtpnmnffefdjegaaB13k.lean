/-
  The document's own timers (jackstayref13.State, by value): words; without and Left.
-/
import Derived.Test.YtpnmnffefdjegaaB13j
import Derived.Test.YtpnmnffefdjegaaM13d
namespace Go.Proofs.Ytpnmnffefdjegaa
open Go.RowKit Go.Maps Go.Sort
set_option linter.unusedVariables false

abbrev tmV (p : Tm) : Array Value := #[.int .i64 p.1, .int .i64 p.2]
theorem tm_ones (p : Tm) : (tmV p).all (·.oneCell') = true := by kernel_rfl
def enT (p : Tm) : List Value := (tmV p).toList
theorem enT_k : EnK enT 2 := ⟨fun _ => rfl, fun p v hv => (Array.all_eq_true_iff_forall_mem.1 (tm_ones p)) v (by simpa [enT] using hv)⟩
theorem elT : ElK Try.prog 28 66 2 (.agg #[.int .i64 0, .int .i64 0]) 16 := ⟨by kernel_rfl, by kernel_rfl, by kernel_rfl, by kernel_rfl, rfl, by omega⟩
theorem rowTm : RowT Try.prog 66 2 := rowT_of (by kernel_rfl) (by kernel_rfl)
theorem rowSt : RowT Try.prog 30 3 := rowT_of (by kernel_rfl) (by kernel_rfl)
abbrev stW (now most : Int) (a : Option Addr) (n c : Nat) : Array Value := #[.int .i64 now, .int .i64 most, .slice a n c]
abbrev stZ13 : Array Value := #[.int .i64 0, .int .i64 0, .slice none 0 0]
theorem st_ones13 (now most : Int) (a : Option Addr) (n c : Nat) : (stW now most a n c).all (·.oneCell') = true := by kernel_rfl

theorem has_len (L : List Tm) (id : Int) : decide ((outL L id).length < L.length) = hasL L id := by
  induction L with
  | nil => rfl
  | cons p L ih =>
    by_cases e : p.1 = id
    · have h1 : (outL (p :: L) id) = outL L id := by simp [outL, e]
      have h2 : hasL (p :: L) id = true := by simp [hasL, e]
      rw [h1, h2]
      have := out_le (L := L) (id := id)
      simp; omega
    · have h1 : (outL (p :: L) id) = p :: outL L id := by simp [outL, e]
      have h2 : hasL (p :: L) id = hasL L id := by simp [hasL, e]
      rw [h1, h2, ← ih]
      simp
theorem out_snoc {L : List Tm} {q : Nat} {p : Tm} (id : Int) (h : L[q]? = some p) : outL (L.take (q + 1)) id = outL (L.take q) id ++ (if p.1 = id then [] else [p]) := by
  unfold outL
  rw [List.take_add_one, h, List.filter_append]
  by_cases e : p.1 = id <;> simp [e]

section
variable {w w1 : World} {a : Option Addr} {n c : Nat} {L : List Tm} {id now most : Int}

theorem tm_at (h : RK enT 2 w a n c L) {q : Nat} (hq : q < n) : ∃ b off p, a = some ⟨b, off, none⟩ ∧ L[q]? = some p ∧ w.cell? ⟨b, off + q * 2, none⟩ = some (.int .i64 p.1) ∧ w.cell? ⟨b, off + q * 2 + 1, none⟩ = some (.int .i64 p.2) ∧ b < w.heap.size := by
  obtain ⟨b, off, ha, hb, hc⟩ := h.cell (by omega)
  have hl : q < L.length := by rw [h.len]; exact hq
  refine ⟨b, off, L[q], ha, by simp [hl], ?_, ?_, hb⟩
  · have := hc q L[q] 0 _ (by simp [hl]) rfl; simpa using this
  · have := hc q L[q] 1 _ (by simp [hl]) rfl; rw [← this]; congr 1

set_option maxRecDepth 100000 in
set_option maxHeartbeats 4000000 in
theorem rwo_any (w : World) (h : RK enT 2 w a n c L) (hn : n ≤ 100000) :
    Calls Try.prog 22 #[.slice a n c, .int .i64 id] w fun e w' => ∃ a' c', e = .returned (.tuple #[.slice a' (outL L id).length c', .bool (hasL L id)]) ∧ OK enT 2 66 w.heap.size w' a' (outL L id).length c' (outL L id) ∧ Below w.heap.size w w' := by
  have HL := hid h.len
  go_enter Try.func22, Try.ntmps22
  go_wp2
  go_loopg [6, 7] n (fun gn v6 vi wr => ∃ (q n6 : Nat) (a6 : Option Addr) (c6 : Nat), q ≤ n ∧ gn = n - q ∧ vi = .int .i64 (q : Int) ∧ v6 = .slice a6 n6 c6 ∧ n6 ≤ q ∧ OK enT 2 66 w.heap.size wr a6 n6 c6 (outL (L.take q) id) ∧ Below w.heap.size w wr)
  case atStart => exact ⟨0, 0, none, 0, by omega, by omega, rfl, rfl, by omega, OK.nil _ _ _ _ _, Below.refl _ _⟩
  case round =>
    obtain ⟨q, n6, a6, c6, hq, rfl, rfl, rfl, hn6, o6, hb⟩ := hrel
    have hsz := hb.size
    by_cases hlt : q < n
    · obtain ⟨b, off, p, ha, hp, z0, z1, hbw⟩ := tm_at (h.below hb) hlt
      subst ha
      have hsn := hid (out_snoc id hp)
      by_cases e : p.1 = id
      · have e2 : (p.1 == id) = true := by simpa using e
        have HE := hid e
        clear e hp
        go_wp2
        go_roundg (n - (q + 1))
        case measure => omega
        case rel => exact ⟨q + 1, n6, a6, c6, by omega, rfl, by go_num, rfl, by omega, by rw [hsn.out, if_pos HE.out, List.append_nil]; exact o6, hb⟩
      · have e2 : (p.1 == id) = false := by simpa using e
        have HE := hid e
        have hrg : wr.rangeAt b (off + q * 2) (tmV p).toList := fun j v hj => by
          match j, hj with
          | 0, hj => simp at hj; subst hj; exact z0
          | 1, hj => simp at hj; subst hj; exact z1
          | j + 2, hj => simp at hj
        clear e hp
        go_wp2_with (first
          | (with_reducible refine wpList_loadM rowTm rfl _ rfl _ _ rfl (tmV p) hrg rfl ?_)
          | (with_reducible refine wpList_appK (w := wr.alloc (.cells (tmV p) 66)) elT enT_k rfl _ _ rfl rfl (o6.alloc _) rfl ((ok_lit enT_k 66 0 wr [p] (tmV p) 1 (by simp [enT]) rfl (by omega) (Nat.zero_le _)).rk enT_k) (by omega) (by omega) (by rw [heap_size_alloc]; omega) ?_
             intro w7 a7 c7 o7 g7))
        go_roundg (n - (q + 1))
        case measure => omega
        case rel => exact ⟨q + 1, n6 + 1, a7, c7, by omega, rfl, by go_num, rfl, by omega, by rw [hsn.out, if_neg HE.out]; exact o7, (bnew hb _).trans g7⟩
    · obtain rfl : q = n := by omega
      rw [List.take_of_length_le (by have := HL.out; omega)] at o6
      have hd : decide (n6 < q) = hasL L id := by
        have h1 := o6.len
        have h2 := HL.out
        rw [← has_len L id, h1, h2]
      have h6 := hid o6.len
      have HD := hid hd
      clear hd
      go_wp2
      go_ret2
      rw [← h6.out] at o6
      refine ⟨a6, c6, ?_, o6, hb⟩
      show Ending.returned (.tuple #[.slice a6 n6 c6, .bool (decide (n6 < q))]) = _
      rw [HD.out, h6.out]

set_option maxRecDepth 100000 in
set_option maxHeartbeats 4000000 in
/-- Left, of a State by value. -/
theorem rLeft_any (w : World) (h : RK enT 2 w a n c L) (hn : n ≤ 100000) (h0 : 0 ≤ now) (h1 : now ≤ 2000000000) (hr : ∀ p ∈ L, -2000000000000 ≤ p.2 ∧ p.2 ≤ 2000000000000) :
    Calls Try.prog 19 #[.agg (stW now most a n c), .int .i64 id] w fun e w' => e = .returned (.tuple #[.int .i64 (leftW ⟨now, most, L⟩ id), .bool (hasL L id)]) ∧ Below w.heap.size w w' := by
  obtain ⟨w0, hw0, b0, g0⟩ : ∃ w0, Hid (w.alloc (.cells (stW now most a n c) 30) = w0) ∧ w0.heap[w.heap.size]? = some (.cells (stW now most a n c) 30 (0, 0)) ∧ Below w.heap.size w w0 := ⟨_, rfl, heap_alloc_new w _, bnew0 w _⟩
  have hr0 := h.below g0
  have HL := hid h.len
  have HR := hid hr
  clear hr h
  go_enter Try.func19, Try.ntmps19
  go_wp2_with (rw [hw0.out])
  go_loopg [6] n (fun gn vi wr => ∃ (q : Nat), q ≤ n ∧ gn = n - q ∧ vi = .int .i64 (q : Int) ∧ hasL (L.take q) id = false ∧ Below w0.heap.size w0 wr)
  case atStart => exact ⟨0, by omega, by omega, rfl, by simp [hasL], Below.refl _ _⟩
  case round =>
    obtain ⟨q, hq, rfl, rfl, hno, hb⟩ := hrel
    obtain ⟨x0, x1, x2⟩ := bx3o (bx_below b0 hb)
    have gg := bstep g0 hb
    by_cases hlt : q < n
    · obtain ⟨b, off, p, ha, hp, z0, z1, hbw⟩ := tm_at (hr0.below hb) hlt
      subst ha
      by_cases e : p.1 = id
      · have e2 : (p.1 == id) = true := by simpa using e
        have hpr := HR.out p (List.mem_of_getElem? hp)
        have hdue : hasL L id = true ∧ dueL L id = p.2 := by
          have hLs : L = L.take q ++ (p :: L.drop (q + 1)) := by
            obtain ⟨h2, e3⟩ := List.getElem?_eq_some_iff.1 hp
            rw [← e3, List.getElem_cons_drop h2, List.take_append_drop]
          have hno2 : List.find? (fun p : Tm => p.1 == id) (L.take q) = none := List.find?_eq_none.2 (fun y hy hyy => by
            have : hasL (L.take q) id = true := List.any_eq_true.2 ⟨y, hy, hyy⟩
            rw [hno] at this; cases this)
          refine ⟨List.any_eq_true.2 ⟨p, List.mem_of_getElem? hp, e2⟩, ?_⟩
          unfold dueL
          rw [hLs, List.find?_append, hno2]
          simp [e]
        have hres : leftW ⟨now, most, L⟩ id = p.2 - now := by unfold leftW; simp only [hdue.1, hdue.2, if_true]
        have HRES := hid hres
        have HDUE := hid hdue
        obtain ⟨dv, hdv⟩ : ∃ d, d = p.2 := ⟨_, rfl⟩
        rw [← hdv] at z1 hpr
        have HDV := hid hdv
        clear e hp hres hdue hdv hno
        go_wp2
        go_quiet (fail)
        go_wp2
        go_ret2
        exact ⟨by rw [HRES.out, HDUE.out.1, ← HDV.out]; rfl, below_drewN gg _⟩
      · have e2 : (p.1 == id) = false := by simpa using e
        have hno3 : hasL (L.take (q + 1)) id = false := by
          unfold hasL at *
          rw [List.take_add_one, hp, List.any_append, hno]; simp [e]
        have HNO := hid hno3
        clear e hp hno3 hno
        go_wp2
        go_roundg (n - (q + 1))
        case measure => omega
        case rel => exact ⟨q + 1, by omega, rfl, by go_num, HNO.out, hb⟩
    · obtain rfl : q = n := by omega
      rw [List.take_of_length_le (by have := HL.out; omega)] at hno
      have hres : leftW ⟨now, most, L⟩ id = 0 := by unfold leftW; simp [hno]
      have HRES := hid hres
      have HNO := hid hno
      clear hres hno
      go_wp2
      go_ret2
      exact ⟨by rw [HRES.out, HNO.out]; rfl, gg⟩
end
end Go.Proofs.Ytpnmnffefdjegaa
