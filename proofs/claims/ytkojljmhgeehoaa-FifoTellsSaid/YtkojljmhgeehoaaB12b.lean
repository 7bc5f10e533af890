/-
  Contracts of a fifo's methods: made, Len, Overrun, Clear, New, Pop; and of one that is none.
-/
import Derived.Test.YtkojljmhgeehoaaB12
import Derived.LaidEqlPtr
namespace Go.Proofs.Ytkojljmhgeehoaa
open Go.RowKit
set_option linter.unusedVariables false

theorem eqFf (w : World) (g : Nat) : (binOp .eql 23 (.pointer (some ⟨g, 0, none⟩)) (.pointer (some ⟨g, 0, none⟩))).run Try.prog w = .ok (.bool true) w := by
  obtain ⟨j, hj⟩ := Option.isSome_iff_exists.1 (show (Try.prog.info? 56).isSome = true by kernel_rfl)
  exact run_eql_ptr_same w _ (by kernel_rfl) hj
theorem eqFn (w : World) (p : Addr) : (binOp .eql 23 (.pointer none) (.pointer (some p))).run Try.prog w = .ok (.bool false) w := by
  have h : ∀ d : Nat, (Op.equalIn (d + 1) 23 (.pointer none) (.pointer (some p))).run Try.prog w = .ok false w := fun d => by
    simp [Op.equalIn, run_underlying (show Try.prog.underlying 23 = some (.pointer 56) by kernel_rfl)]
  simp only [binOp]
  simp [Op.equal, Op.maxDepth, h 9999]

section
variable {B : Nat} {w w1 : World} {g s : Nat} {m : Fm} {a : Option Addr} {c : Nat} {st : List Rx} {S : Nat → Prop} {v : Value}

set_option maxRecDepth 100000 in
theorem ffMade_any (h : FfO B w g s m a c st S) : Calls Try.prog 19 #[.pointer (some ⟨g, 0, none⟩)] w fun e w' => e = .returned (.bool true) ∧ w = w' := by
  have q0 := (bx5 h.box).1
  have qe := fun w => eqFf w g
  go_enter Try.func19, Try.ntmps19
  go_wp2
  go_ret
  exact ⟨rfl, rfl⟩

set_option maxRecDepth 100000 in
theorem ffLen_any (h : FfO B w g s m a c st S) : Calls Try.prog 15 #[.pointer (some ⟨g, 0, none⟩)] w fun e w' => e = .returned (.int .i64 (m.fs.length : Int)) ∧ w = w' := by
  have q3 := (bx5 h.box).2.2.2.1
  have hm := ffMade_any h
  go_enter Try.func15, Try.ntmps15
  go_wp2_with (go_at_call 19; (refine hm.mono ?_); rintro e w1 ⟨rfl, rfl⟩)
  go_ret
  exact ⟨rfl, rfl⟩

set_option maxRecDepth 100000 in
theorem ffOver_any (h : FfO B w g s m a c st S) : Calls Try.prog 16 #[.pointer (some ⟨g, 0, none⟩)] w fun e w' => e = .returned (.bool m.ov) ∧ w = w' := by
  have q4 := (bx5 h.box).2.2.2.2
  have hm := ffMade_any h
  go_enter Try.func16, Try.ntmps16
  go_wp2_with (go_at_call 19; (refine hm.mono ?_); rintro e w1 ⟨rfl, rfl⟩)
  go_ret
  exact ⟨rfl, rfl⟩

set_option maxRecDepth 100000 in
theorem ffClear_any (h : FfO B w g s m a c st S) : Calls Try.prog 14 #[.pointer (some ⟨g, 0, none⟩)] w fun e w' => e = .returned (.bool m.ov) ∧ FfO B w' g s { m with ov := false } a c st S ∧ Ch S w w' := by
  have hz := h.thaw
  have ho := ffOver_any h
  obtain ⟨room, fs, ov⟩ := m
  cases ov
  · go_enter Try.func14, Try.ntmps14
    go_wp2_with (go_at_call 16; (refine ho.mono ?_); rintro e w1 ⟨rfl, rfl⟩)
    go_ret
    exact ⟨rfl, h, Ch.refl S w⟩
  · have q4 := (bx5 h.box).2.2.2.2
    go_enter Try.func14, Try.ntmps14
    go_wp2_with (go_at_call 16; (refine ho.mono ?_); rintro e w1 ⟨rfl, rfl⟩)
    go_ret
    exact ⟨rfl, h.flag false, (Ch.refl S w).setCell (p := ⟨g, 4, none⟩) (.inl h.sg) _⟩

/-- A new fifo. -/
def neF (room : Nat) : Fm := ⟨room, [], false⟩
def NewFf (w : World) (room : Nat) (e : Ending) (w' : World) : Prop :=
  ∃ g s, e = .returned (.tuple #[.pointer (some ⟨g, 0, none⟩), .int .i64 0]) ∧ FfO w.heap.size w' g s (neF room) none 0 (List.replicate (2 * room) x0X) (fun b => b = g ∨ b = s) ∧ Below w.heap.size w w'
theorem neF_ok {w w1 : World} {room : Nat} (h1 : 1 ≤ room) (h2 : room ≤ 256) (o1 : OK enX 6 36 w.heap.size w1 (some ⟨w.heap.size, 0, none⟩) (2 * room) (2 * room) (List.replicate (2 * room) x0X)) (z1 : w1.heap.size = w.heap.size + 1) :
    FfO w.heap.size (w1.alloc (.cells (ffV (w.heap.size + 1) w.heap.size (neF room) none 0) 56)) (w.heap.size + 1) w.heap.size (neF room) none 0 (List.replicate (2 * room) x0X) (fun b => b = w.heap.size + 1 ∨ b = w.heap.size) := by
  have hb := heap_alloc_new w1 (.cells (ffV (w.heap.size + 1) w.heap.size (neF room) none 0) 56)
  rw [z1] at hb
  exact ⟨hb, o1.alloc _, fun h => absurd h (by omega), Nat.zero_le _, Nat.le_refl _, fun i x h => (by simp [neF] at h), fun p hp => (by cases hp), by omega, .inl rfl, .inr rfl, by omega, fun p hp => (by cases hp), fun k hk => (by rcases hk with h | h <;> omega), fun p hp => (by cases hp), List.Pairwise.nil, h1, h2, Nat.zero_le _, fun k hk => (by rw [heap_size_alloc, z1]; rcases hk with h | h <;> omega)⟩

set_option maxRecDepth 100000 in
set_option maxHeartbeats 1000000 in
theorem ffNew_wrong (w : World) (room : Int) (h : room < 1 ∨ 256 < room) :
    Calls Try.prog 7 #[.int .i64 room] w fun e w' => e = .returned (.tuple #[.pointer none, .int .i64 2]) ∧ w = w' := by
  rcases h with h | h
  · go_enter Try.func7, Try.ntmps7
    go_wp2
    go_ret2
    exact ⟨rfl, rfl⟩
  · have h1 : ¬ room < 1 := by omega
    go_enter Try.func7, Try.ntmps7
    go_wp2
    go_ret2
    exact ⟨rfl, rfl⟩

set_option maxRecDepth 100000 in
set_option maxHeartbeats 1000000 in
theorem ffNew_any (w : World) (room : Nat) (h1 : 1 ≤ room) (h2 : room ≤ 256) :
    Calls Try.prog 7 #[.int .i64 (room : Int)] w (NewFf w room) := by
  have i1 : ¬ (room : Int) < 1 := by omega
  have i2 : ¬ (256 : Int) < (room : Int) := by omega
  obtain ⟨R, hR⟩ : ∃ R, R = 2 * room := ⟨_, rfl⟩
  have hRi : Hid ((2 : Int) * (room : Int) = (R : Int)) := by show _ = _; omega
  have hRm : R ≤ 1000000 := by omega
  go_enter Try.func7, Try.ntmps7
  go_wp2_with (refine wpList_mkK elX enX_k x0X rfl rfl _ _ rfl R _ _ .i64 .i64 rfl rfl hRi.out hRi.out hRm (by omega) ?_; intro w1 o1 g1 z1)
  go_ret2
  subst hR
  exact ⟨w.heap.size + 1, w.heap.size, rfl, neF_ok h1 h2 o1 z1, bnew g1 _⟩

/-- What Pop leaves of a fifo. -/
def poF (m : Fm) : Fm := { m with fs := m.fs.drop 1 }

set_option maxRecDepth 100000 in
theorem ffPop_no (h : FfO B w g s m a c st S) (h0 : m.fs = []) : Calls Try.prog 12 #[.pointer (some ⟨g, 0, none⟩)] w fun e w' => e = .returned (.tuple #[.agg rxZ, .bool false]) ∧ Below w.heap.size w w' := by
  obtain ⟨w0, hw0, hb, hg⟩ : ∃ w0, Hid (w.alloc (.cells rxZ 36) = w0) ∧ w0.heap[w.heap.size]? = some (.cells rxZ 36 (0, 0)) ∧ Below w.heap.size w w0 := ⟨_, rfl, heap_alloc_new w _, bnew0 w _⟩
  have hm := ffLen_any (h.below hg)
  rw [h0] at hm
  clear h0
  go_enter Try.func12, Try.ntmps12
  go_wp2_with (first
    | (go_at_call 15; rw [hw0.out]; (refine hm.mono ?_); rintro e w1 ⟨rfl, rfl⟩)
    | (with_reducible refine wpList_storeR rowX rfl _ _ rfl _ _ rfl rfl hb rfl rfl (by kernel_rfl) ?_))
  exact bodyPost_ret (v := .tuple #[.agg rxZ, .bool false]) (results_row1 rowX rfl _ _ _ rfl rfl (setRow_heap _ _ _ _ _ _ hb) rfl) rfl ⟨rfl, below_setRow hg (Nat.le_refl _) _⟩

theorem rx_sliced (s off c n : Nat) (hn : 1 ≤ n) : ∃ a', Go.sliced (some ⟨s, off * 6, none⟩) 1 n c 6 = .slice a' (n - 1) (c - 1) ∧ (1 < c → a' = some ⟨s, (off + 1) * 6, none⟩) := by
  refine ⟨_, rfl, fun h => ?_⟩
  rw [if_neg (by omega)]
  simp [Addr.add_lit]
  try omega

theorem ffPop_fin {W w4 : World} {a' : Option Addr} {x : Rx} (h3 : FfO B W g s m a c st S) (h0 : m.fs[0]? = some x)
    (o4 : OK enX 6 36 B w4 (some ⟨s, 0, none⟩) (2 * m.room) (2 * m.room) (st.set (2 * m.room - c) x0X)) (k4 : Wr s W w4) (z4 : w4.heap.size = W.heap.size) (ha' : 1 < c → a' = some ⟨s, (2 * m.room - c + 1) * 6, none⟩) :
    FfO B (w4.setCell ⟨g, 3, none⟩ (.slice a' (m.fs.length - 1) (c - 1))) g s (poF m) a' (c - 1) (st.set (2 * m.room - c) x0X) (fun b => S b ∧ ∀ q, x.1.2.1 = some q → b ≠ q.block) ∧
    RxO B (w4.setCell ⟨g, 3, none⟩ (.slice a' (m.fs.length - 1) (c - 1))) x ∧ Ch (fun b => b = g ∨ b = s) W (w4.setCell ⟨g, 3, none⟩ (.slice a' (m.fs.length - 1) (c - 1))) := by
  have b4 := (k4.block g h3.lt (Ne.symm h3.ng)).trans h3.box
  have kc : Ch (fun b => b = g ∨ b = s) W (w4.setCell ⟨g, 3, none⟩ (.slice a' (m.fs.length - 1) (c - 1))) :=
    Ch.setCell (S := fun b => b = g ∨ b = s) ⟨k4.os, k4.tape, k4.output, k4.size, fun b hb hn => k4.block b hb (fun e => hn (.inr e))⟩ (p := ⟨g, 3, none⟩) (.inl (.inl rfl)) _
  have hmem : ∀ {p : Rx}, p ∈ m.fs.drop 1 → p ∈ m.fs := fun hp => List.mem_of_mem_drop hp
  have hx : x ∈ m.fs := List.mem_of_getElem? h0
  have hdat : ∀ p ∈ m.fs, RxO B (w4.setCell ⟨g, 3, none⟩ (.slice a' (m.fs.length - 1) (c - 1))) p := fun p hp => (h3.dat p hp).ch kc (fun q hq e => by
    rcases e with e | e
    · exact (h3.nd p hp).1 q hq e
    · exact (h3.nd p hp).2 q hq e)
  have hfs : m.fs = x :: m.fs.drop 1 := by
    cases hf : m.fs with
    | nil => rw [hf] at h0; simp at h0
    | cons y l => rw [hf] at h0; simp at h0; simp [h0]
  have hap : ∀ p ∈ m.fs.drop 1, Apart x p := fun p hp => by
    have := h3.pw
    rw [hfs] at this
    exact (List.pairwise_cons.1 this).1 p hp
  have hlen : (poF m).fs.length = m.fs.length - 1 := by simp [poF]
  have hn1 : 1 ≤ m.fs.length := (List.getElem?_eq_some_iff.1 h0).1
  have hc := h3.nle
  have hcl := h3.cle
  refine ⟨⟨?_, ?_, fun h => ?_, ?_, ?_, fun i y hy => ?_, fun p hp => hdat p (hmem hp), h3.hB, ⟨h3.sg, fun q hq e => (h3.nd x hx).1 q hq e.symm⟩, ⟨h3.ss, fun q hq e => (h3.nd x hx).2 q hq e.symm⟩, h3.ng, fun p hp q hq => ⟨h3.sd p (hmem hp) q hq, fun r hr e => hap p hp r q hr hq e.symm⟩, fun k hk => h3.sB k hk.1, fun p hp => h3.nd p (hmem hp), ?_, h3.r1, h3.rm, ?_, fun k hk => Nat.lt_of_lt_of_le (h3.sL k hk.1) kc.size⟩, hdat x hx, kc⟩
  · rw [heap_setCell_same w4 g 3 _ _ _ b4]
    show some (Obj.cells #[_, _, _, Value.slice a' (m.fs.length - 1) (c - 1), _] _ _) = some (Obj.cells #[_, _, _, Value.slice a' (poF m).fs.length (c - 1), _] _ _)
    rw [hlen]
    rfl
  · exact o4.kept fun b hb => Below.heap_setCell _ _ _ _ (by cases hb; exact h3.ng)
  · rw [ha' (by omega)]
    show some _ = some (⟨s, (2 * m.room - (c - 1)) * 6, none⟩ : Addr)
    rw [show 2 * m.room - c + 1 = 2 * m.room - (c - 1) by omega]
  · show c - 1 ≤ 2 * m.room; omega
  · rw [hlen]; omega
  · have hy' : m.fs[i + 1]? = some y := by simpa [poF] using hy
    have := h3.fr _ _ hy'
    show (st.set (2 * m.room - c) x0X)[2 * m.room - (c - 1) + i]? = some y
    rw [List.getElem?_set_ne (by omega), ← this]
    congr 1; omega
  · have := h3.pw
    rw [hfs] at this
    exact (List.pairwise_cons.1 this).2
  · rw [hlen]; have := h3.le; show _ ≤ m.room; omega

set_option maxRecDepth 100000 in
set_option maxHeartbeats 4000000 in
theorem ffPop_any (h : FfO B w g s m a c st S) (x : Rx) (h0 : m.fs[0]? = some x) : Calls Try.prog 12 #[.pointer (some ⟨g, 0, none⟩)] w fun e w' => ∃ a', e = .returned (.tuple #[.agg (rxV x), .bool true]) ∧
    FfO B w' g s (poF m) a' (c - 1) (st.set (2 * m.room - c) x0X) (fun b => S b ∧ ∀ q, x.1.2.1 = some q → b ≠ q.block) ∧ RxO B w' x ∧ Ch (fun b => b = g ∨ b = s) w w' := by
  have hlen : 1 ≤ m.fs.length := (List.getElem?_eq_some_iff.1 h0).1
  have hc : 0 < c := Nat.lt_of_lt_of_le hlen h.nle
  have ha := h.ad hc
  obtain ⟨off, hoff⟩ : ∃ off, off = 2 * m.room - c := ⟨_, rfl⟩
  rw [← hoff] at ha
  have hst : st[off]? = some x := by have := h.fr 0 x h0; rwa [Nat.add_zero, ← hoff] at this
  obtain ⟨w0, hw0, hb, h1, hg⟩ : ∃ w0, Hid (w.alloc (.cells rxZ 36) = w0) ∧ w0.heap[w.heap.size]? = some (.cells rxZ 36 (0, 0)) ∧ FfO B w0 g s m a c st S ∧ Below w.heap.size w w0 := ⟨_, rfl, heap_alloc_new w _, h.alloc _, bnew0 w _⟩
  have hm := ffLen_any h1
  have q3 := (bx5 h1.box).2.2.2.1
  have hr := h1.row.range enX_k hst
  have HO := hid hoff
  rw [← hoff]
  clear hoff
  have hne : ((m.fs.length : Int) == 0) = false := by rw [beq_eq_false_iff_ne]; omega
  subst ha
  obtain ⟨a', hsl, ha'⟩ := rx_sliced s off c m.fs.length hlen
  have hoR : off < 2 * m.room := by have := HO.out; have := h.r1; omega
  go_enter Try.func12, Try.ntmps12
  go_wp2_with (first
    | (go_at_call 15; rw [hw0.out]; (refine hm.mono ?_); rintro e w1 ⟨rfl, rfl⟩)
    | (with_reducible refine wpList_loadM rowX rfl _ rfl _ _ rfl (rxV x) hr rfl ?_
       have b2 := heap_alloc_new w0 (.cells rxZ 36))
    | (with_reducible refine wpList_storeR rowX rfl _ _ rfl _ _ rfl rfl b2 rfl rfl (rx_ones _) ?_
       have gW : Below w0.heap.size w0 ((w0.alloc (.cells rxZ 36)).setRow w0.heap.size (rxV x)) := below_setRow (bnew0 w0 _) (Nat.le_refl _) _
       have bW : ((w0.alloc (.cells rxZ 36)).setRow w0.heap.size (rxV x)).heap[w0.heap.size]? = some (.cells (rxV x) 36 (0, 0)) := setRow_heap _ _ _ _ _ _ b2
       have h3 := h1.below gW
       have b3 := bx_below hb gW
       have gg3 := bstep hg gW
       clear q3 hr gW b2 hm
       generalize (w0.alloc (.cells rxZ 36)).setRow w0.heap.size (rxV x) = W at *
       have q3 := (bx5 h3.box).2.2.2.1)
    | (with_reducible refine wpList_putM enX_k rowX rfl _ _ rfl h3.row off hoR x0X rxZ rxZ_list rfl rfl rxZ_ones ?_
       intro w4 o4 k4 z4
       have b4 := (k4.block g h3.lt (Ne.symm h.ng)).trans h3.box
       have q4 := (bx5 b4).2.2.2.1
       have f4 := bx_thaw b4
       clear q3)
    | (with_reducible refine wpList_cutFromS elX rfl _ _ rfl .i64 1 1 rfl rfl rfl hlen hsl ?_
       have bx4 : (w4.setCell ⟨g, 3, none⟩ (.slice a' (m.fs.length - 1) (c - 1))).heap[w0.heap.size]? = some (.cells (rxV x) 36 (0, 0)) := (Below.heap_setCell _ _ _ _ (by have := h1.lt; show w0.heap.size ≠ g; omega)).trans ((k4.block _ (bx_lt bW) (by have := h1.sL _ h1.ss; omega)).trans bW)
       have br4 : (w4.setCell ⟨g, 3, none⟩ (.slice a' (m.fs.length - 1) (c - 1))).heap[w.heap.size]? = some (.cells rxZ 36 (0, 0)) := (Below.heap_setCell _ _ _ _ (by have := h.lt; show w.heap.size ≠ g; omega)).trans ((k4.block _ (bx_lt b3) (by have := h.sL _ h.ss; omega)).trans b3))
    | (with_reducible refine wpList_loadR rowX rfl _ rfl _ rfl bx4 rfl ?_)
    | (with_reducible refine wpList_storeR rowX rfl _ _ rfl _ _ rfl rfl br4 rfl rfl (rx_ones _) ?_))
  rw [HO.out] at o4 ha'
  obtain ⟨hF, hX, hK⟩ := ffPop_fin h3 h0 o4 k4 z4 ha'
  rw [← HO.out] at hF
  have kR : Ch (fun b => b = w.heap.size) (w4.setCell ⟨g, 3, none⟩ (.slice a' (m.fs.length - 1) (c - 1))) ((w4.setCell ⟨g, 3, none⟩ (.slice a' (m.fs.length - 1) (c - 1))).setRow w.heap.size (rxV x)) := Ch.setRow (S := fun b => b = w.heap.size) (Ch.refl _ _) (.inl rfl) _
  have hx : x ∈ m.fs := List.mem_of_getElem? h0
  refine bodyPost_ret (v := .tuple #[.agg (rxV x), .bool true]) (results_row1 rowX rfl _ _ _ rfl rfl (setRow_heap _ _ _ _ _ _ br4) rfl) rfl ⟨a', rfl, hF.ch kR (fun b hb e => ?_), hX.ch kR (fun q hq e => ?_), ?_⟩
  · have := h.sL b hb.1; omega
  · have := h.sL _ (h.sd x hx q hq); omega
  · exact (((Ch.of_below gg3).trans hK (fun b hb => .inl hb)).setRow (.inr (Nat.le_refl _)) _)

/-- A fifo that is none: nil, or one that New did not answer. -/
abbrev ffZ : Array Value := #[.pointer none, .int .i64 0, .slice none 0 0, .slice none 0 0, .bool false]
def NoF (w : World) (v : Value) : Prop := v = .pointer none ∨ ∃ g, v = .pointer (some ⟨g, 0, none⟩) ∧ w.heap[g]? = some (.cells ffZ 56 (0, 0))
theorem NoF.below (h : NoF w v) (k : Below w.heap.size w w1) : NoF w1 v := by
  rcases h with h | ⟨g, h1, h2⟩
  · exact .inl h
  · exact .inr ⟨g, h1, bx_below h2 k⟩

set_option maxRecDepth 100000 in
theorem ffMade_none (h : NoF w v) : Calls Try.prog 19 #[v] w fun e w' => e = .returned (.bool false) ∧ w = w' := by
  rcases h with rfl | ⟨g, rfl, h⟩
  · go_enter Try.func19, Try.ntmps19
    go_wp2
    go_ret
    exact ⟨rfl, rfl⟩
  · have q0 := (bx5 h).1
    have qe := fun w => eqFn w ⟨g, 0, none⟩
    go_enter Try.func19, Try.ntmps19
    go_wp2
    go_ret
    exact ⟨rfl, rfl⟩

theorem ffLen_none (h : NoF w v) : Calls Try.prog 15 #[v] w fun e w' => e = .returned (.int .i64 0) ∧ w = w' := by
  have hm := ffMade_none h
  clear h
  go_enter Try.func15, Try.ntmps15
  go_wp2_with (go_at_call 19; (refine hm.mono ?_); rintro e w1 ⟨rfl, rfl⟩)
  go_ret
  exact ⟨rfl, rfl⟩

theorem ffOver_none (h : NoF w v) : Calls Try.prog 16 #[v] w fun e w' => e = .returned (.bool false) ∧ w = w' := by
  have hm := ffMade_none h
  clear h
  go_enter Try.func16, Try.ntmps16
  go_wp2_with (go_at_call 19; (refine hm.mono ?_); rintro e w1 ⟨rfl, rfl⟩)
  go_ret
  exact ⟨rfl, rfl⟩

theorem ffClear_none (h : NoF w v) : Calls Try.prog 14 #[v] w fun e w' => e = .returned (.bool false) ∧ w = w' := by
  have hm := ffOver_none h
  clear h
  go_enter Try.func14, Try.ntmps14
  go_wp2_with (go_at_call 16; (refine hm.mono ?_); rintro e w1 ⟨rfl, rfl⟩)
  go_ret
  exact ⟨rfl, rfl⟩

theorem ffPush_none (h : NoF w v) (cs : Array Value) : Calls Try.prog 10 #[v, .agg cs] w fun e w' => e = .returned (.int .i64 1) ∧ Below w.heap.size w w' := by
  obtain ⟨w0, hw0, hg⟩ : ∃ w0, Hid (w.alloc (.cells cs 36) = w0) ∧ Below w.heap.size w w0 := ⟨_, rfl, bnew0 w _⟩
  have hm := ffMade_none (h.below hg)
  clear h
  go_enter Try.func10, Try.ntmps10
  go_wp2_with (go_at_call 19; rw [hw0.out]; (refine hm.mono ?_); rintro e w1 ⟨rfl, rfl⟩)
  go_ret
  exact ⟨rfl, hg⟩

theorem ffPop_none (h : NoF w v) : Calls Try.prog 12 #[v] w fun e w' => e = .returned (.tuple #[.agg rxZ, .bool false]) ∧ Below w.heap.size w w' := by
  obtain ⟨w0, hw0, hb, hg⟩ : ∃ w0, Hid (w.alloc (.cells rxZ 36) = w0) ∧ w0.heap[w.heap.size]? = some (.cells rxZ 36 (0, 0)) ∧ Below w.heap.size w w0 := ⟨_, rfl, heap_alloc_new w _, bnew0 w _⟩
  have hm := ffLen_none (h.below hg)
  clear h
  go_enter Try.func12, Try.ntmps12
  go_wp2_with (first
    | (go_at_call 15; rw [hw0.out]; (refine hm.mono ?_); rintro e w1 ⟨rfl, rfl⟩)
    | (with_reducible refine wpList_storeR rowX rfl _ _ rfl _ _ rfl rfl hb rfl rfl (by kernel_rfl) ?_))
  exact bodyPost_ret (v := .tuple #[.agg rxZ, .bool false]) (results_row1 rowX rfl _ _ _ rfl rfl (setRow_heap _ _ _ _ _ _ hb) rfl) rfl ⟨rfl, below_setRow hg (Nat.le_refl _) _⟩
end
end Go.Proofs.Ytkojljmhgeehoaa
