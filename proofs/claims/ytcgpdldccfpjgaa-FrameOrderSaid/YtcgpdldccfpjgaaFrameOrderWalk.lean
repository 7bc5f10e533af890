/-
  The walk of the statement FrameOrder: for any three frames it returns true, and nothing that was there has changed.
-/
import Derived.Test.YtcgpdldccfpjgaaB4t
import Derived.Test.YtcgpdldccfpjgaaM4b
import Derived.Deep.CutRange
import Derived.Deep.DeepCutAuto
namespace Go.Proofs.Ytcgpdldccfpjgaa
open Go.RowKit Go.Sort
set_option linter.unusedVariables false

theorem cells5O {w0 : World} {g : Nat} {E : TypeId} {v0 v1 v2 v3 v4 : Value} (h : w0.heap[g]? = some (.cells #[v0, v1, v2, v3, v4] E (0, 0))) :
    (∀ d os, (grow (redrawn w0 d) os).cell? ⟨g, 0, none⟩ = some v0) ∧ (∀ d os, (grow (redrawn w0 d) os).cell? ⟨g, 1, none⟩ = some v1) ∧ (∀ d os, (grow (redrawn w0 d) os).cell? ⟨g, 2, none⟩ = some v2) ∧
    (∀ d os, (grow (redrawn w0 d) os).cell? ⟨g, 3, none⟩ = some v3) ∧ (∀ d os, (grow (redrawn w0 d) os).cell? ⟨g, 4, none⟩ = some v4) := by
  obtain ⟨k0, k1, k2, k3, k4⟩ := bx5 h
  exact ⟨fun d os => cell_regrown k0 d os, fun d os => cell_regrown k1 d os, fun d os => cell_regrown k2 d os, fun d os => cell_regrown k3 d os, fun d os => cell_regrown k4 d os⟩

theorem boxed3 (w : World) (E : TypeId) (u v x : Array Value) : ∃ w0, Hid (((w.alloc (.cells u E)).alloc (.cells v E)).alloc (.cells x E) = w0) ∧ w0.heap[w.heap.size]? = some (.cells u E (0, 0)) ∧ w0.heap[w.heap.size + 1]? = some (.cells v E (0, 0)) ∧ w0.heap[w.heap.size + 1 + 1]? = some (.cells x E (0, 0)) ∧ Below w.heap.size w w0 := by
  obtain ⟨h1, h2, h3⟩ := two_bx (w := w) (E := E) (F := E) (u := u) (v := v) (Below.refl _ _)
  have h4 := heap_alloc_new ((w.alloc (.cells u E)).alloc (.cells v E)) (.cells x E)
  simp only [heap_size_alloc] at h4
  exact ⟨_, rfl, bx_alloc _ h1, bx_alloc _ h2, h4, bnew h3 _⟩

theorem regrown_below {w0 w9 : World} (h : ∃ p : Regrown, w9 = grow (redrawn w0 p.d) p.os) : Below w0.heap.size w0 w9 := by obtain ⟨p9, rfl⟩ := h; exact below_regrown _ _ _

set_option maxRecDepth 100000 in
set_option maxHeartbeats 4000000 in
theorem frameOrder_wrong (w : World) (id : Nat) (ext rem : Bool) (dlc : Nat) (a : Option Addr) (n c : Nat) (id2 : Nat) (ext2 rem2 : Bool) (dlc2 : Nat) (a2 : Option Addr) (n2 c2 : Nat) (id3 : Nat) (ext3 rem3 : Bool) (dlc3 : Nat) (a3 : Option Addr) (n3 c3 : Nat)
    (hi : id < 4294967296) (hd : dlc < 256) (hi2 : id2 < 4294967296) (hd2 : dlc2 < 256) (hi3 : id3 < 4294967296) (hd3 : dlc3 < 256)
    (hw : riF id ext rem dlc n = false ∨ (riF id ext rem dlc n = true ∧ riF id2 ext2 rem2 dlc2 n2 = false) ∨ (riF id ext rem dlc n = true ∧ riF id2 ext2 rem2 dlc2 n2 = true ∧ riF id3 ext3 rem3 dlc3 n3 = false)) :
    Calls Try.prog 7 #[.agg #[.int .u32 (id : Int), .bool ext, .bool rem, .int .u8 (dlc : Int), .slice a n c], .agg #[.int .u32 (id2 : Int), .bool ext2, .bool rem2, .int .u8 (dlc2 : Int), .slice a2 n2 c2], .agg #[.int .u32 (id3 : Int), .bool ext3, .bool rem3, .int .u8 (dlc3 : Int), .slice a3 n3 c3]] w fun e w' => e = .returned (.bool true) ∧ Below w.heap.size w w' := by
  obtain ⟨w0, hw0, hbx, hby, hbz, gg0⟩ := boxed3 w 25 #[.int .u32 (id : Int), .bool ext, .bool rem, .int .u8 (dlc : Int), .slice a n c] #[.int .u32 (id2 : Int), .bool ext2, .bool rem2, .int .u8 (dlc2 : Int), .slice a2 n2 c2] #[.int .u32 (id3 : Int), .bool ext3, .bool rem3, .int .u8 (dlc3 : Int), .slice a3 n3 c3]
  have cR := fun w' => frRight_any w' id ext rem dlc a n c hi hd
  have cR2 := fun w' => frRight_any w' id2 ext2 rem2 dlc2 a2 n2 c2 hi2 hd2
  have cR3 := fun w' => frRight_any w' id3 ext3 rem3 dlc3 a3 n3 c3 hi3 hd3
  have cX := fun w' => before_any w' id ext rem dlc a n c id2 ext2 rem2 dlc2 a2 n2 c2 hi hd hi2 hd2
  have cY := fun w' => before_any w' id2 ext2 rem2 dlc2 a2 n2 c2 id ext rem dlc a n c hi2 hd2 hi hd
  rcases hw with h1 | ⟨h1, h2⟩ | ⟨h1, h2, h3⟩
  · simp only [h1, Bool.false_and, Bool.and_false] at cR cX cY
    clear h1 cR2 cR3
    go_enter Try.func7, Try.ntmps7
    go_wp2_with (first
      | (go_at_call 13; rw [hw0.out]; (with_reducible refine (cR w0).mono ?_); rintro e w1 ⟨rfl, g1⟩; obtain ⟨x0, x1, x2, x3, x4⟩ := bx5 (bx_below hbx g1))
      | (go_at_call 13; (with_reducible refine (cR w1).mono ?_); rintro e w2 ⟨rfl, g2⟩; clear x0 x1 x2 x3 x4; obtain ⟨x0, x1, x2, x3, x4⟩ := bx5 (bx_below (bx_below hbx g1) g2); obtain ⟨y0, y1, y2, y3, y4⟩ := bx5 (bx_below (bx_below hby g1) g2))
      | (go_at_call 17; (with_reducible refine (cX w2).mono ?_); rintro e w3 ⟨rfl, g3⟩; clear x0 x1 x2 x3 x4 y0 y1 y2 y3 y4; obtain ⟨x0, x1, x2, x3, x4⟩ := bx5 (bx_below (bx_below (bx_below hbx g1) g2) g3); obtain ⟨y0, y1, y2, y3, y4⟩ := bx5 (bx_below (bx_below (bx_below hby g1) g2) g3))
      | (go_at_call 17; (with_reducible refine (cY w3).mono ?_); rintro e w4 ⟨rfl, g4⟩)
      | (go_at_call 10; refine (awake4_any w4).mono ?_; rintro e w5 ⟨rfl, g5⟩))
    go_ret
    exact ⟨rfl, bstep (bstep (bstep (bstep (bstep gg0 g1) g2) g3) g4) g5⟩
  · simp only [h1, h2] at cR cR2
    clear h1 h2 cR3 cX cY
    go_enter Try.func7, Try.ntmps7
    go_wp2_with (first
      | (go_at_call 13; rw [hw0.out]; (with_reducible refine (cR w0).mono ?_); rintro e w1 ⟨rfl, g1⟩; obtain ⟨x0, x1, x2, x3, x4⟩ := bx5 (bx_below hby g1))
      | (go_at_call 13; (with_reducible refine (cR2 w1).mono ?_); rintro e w2 ⟨rfl, g2⟩; clear x0 x1 x2 x3 x4; obtain ⟨x0, x1, x2, x3, x4⟩ := bx5 (bx_below (bx_below hbx g1) g2))
      | (go_at_call 13; (with_reducible refine (cR w2).mono ?_); rintro e w3 ⟨rfl, g3⟩)
      | (go_at_call 10; refine (awake4_any w3).mono ?_; rintro e w5 ⟨rfl, g5⟩))
    go_ret
    exact ⟨rfl, bstep (bstep (bstep (bstep gg0 g1) g2) g3) g5⟩
  · simp only [h1, h2, h3] at cR cR2 cR3
    clear h1 h2 h3 cX cY
    go_enter Try.func7, Try.ntmps7
    go_wp2_with (first
      | (go_at_call 13; rw [hw0.out]; (with_reducible refine (cR w0).mono ?_); rintro e w1 ⟨rfl, g1⟩; obtain ⟨x0, x1, x2, x3, x4⟩ := bx5 (bx_below hby g1))
      | (go_at_call 13; (with_reducible refine (cR2 w1).mono ?_); rintro e w2 ⟨rfl, g2⟩; clear x0 x1 x2 x3 x4; obtain ⟨x0, x1, x2, x3, x4⟩ := bx5 (bx_below (bx_below hbz g1) g2))
      | (go_at_call 13; (with_reducible refine (cR3 w2).mono ?_); rintro e w3 ⟨rfl, g3⟩; clear x0 x1 x2 x3 x4; obtain ⟨x0, x1, x2, x3, x4⟩ := bx5 (bx_below (bx_below (bx_below hbx g1) g2) g3))
      | (go_at_call 13; (with_reducible refine (cR w3).mono ?_); rintro e w4 ⟨rfl, g4⟩)
      | (go_at_call 10; refine (awake4_any w4).mono ?_; rintro e w5 ⟨rfl, g5⟩))
    go_ret
    exact ⟨rfl, bstep (bstep (bstep (bstep (bstep gg0 g1) g2) g3) g4) g5⟩

set_option maxRecDepth 100000 in
set_option maxHeartbeats 4000000 in
theorem frameOrder_right (w : World) (id : Nat) (ext rem : Bool) (dlc : Nat) (a : Option Addr) (n c : Nat) (id2 : Nat) (ext2 rem2 : Bool) (dlc2 : Nat) (a2 : Option Addr) (n2 c2 : Nat) (id3 : Nat) (ext3 rem3 : Bool) (dlc3 : Nat) (a3 : Option Addr) (n3 c3 : Nat)
    (hi : id < 4294967296) (hd : dlc < 256) (hi2 : id2 < 4294967296) (hd2 : dlc2 < 256) (hi3 : id3 < 4294967296) (hd3 : dlc3 < 256)
    (h1 : riF id ext rem dlc n = true) (h2 : riF id2 ext2 rem2 dlc2 n2 = true) (h3 : riF id3 ext3 rem3 dlc3 n3 = true) :
    Calls Try.prog 7 #[.agg #[.int .u32 (id : Int), .bool ext, .bool rem, .int .u8 (dlc : Int), .slice a n c], .agg #[.int .u32 (id2 : Int), .bool ext2, .bool rem2, .int .u8 (dlc2 : Int), .slice a2 n2 c2], .agg #[.int .u32 (id3 : Int), .bool ext3, .bool rem3, .int .u8 (dlc3 : Int), .slice a3 n3 c3]] w fun e w' => e = .returned (.bool true) ∧ Below w.heap.size w w' := by
  obtain ⟨w0, hw0, hbx, hby, hbz, gg0⟩ := boxed3 w 25 #[.int .u32 (id : Int), .bool ext, .bool rem, .int .u8 (dlc : Int), .slice a n c] #[.int .u32 (id2 : Int), .bool ext2, .bool rem2, .int .u8 (dlc2 : Int), .slice a2 n2 c2] #[.int .u32 (id3 : Int), .bool ext3, .bool rem3, .int .u8 (dlc3 : Int), .slice a3 n3 c3]
  have cR := fun w' => frRight_any w' id ext rem dlc a n c hi hd
  have cR2 := fun w' => frRight_any w' id2 ext2 rem2 dlc2 a2 n2 c2 hi2 hd2
  have cR3 := fun w' => frRight_any w' id3 ext3 rem3 dlc3 a3 n3 c3 hi3 hd3
  have cX := fun w' => before_any w' id ext rem dlc a n c id2 ext2 rem2 dlc2 a2 n2 c2 hi hd hi2 hd2
  have cY := fun w' => before_any w' id2 ext2 rem2 dlc2 a2 n2 c2 id ext rem dlc a n c hi2 hd2 hi hd
  have cZ := fun w' => before_any w' id2 ext2 rem2 dlc2 a2 n2 c2 id3 ext3 rem3 dlc3 a3 n3 c3 hi2 hd2 hi3 hd3
  have cU := fun w' => before_any w' id ext rem dlc a n c id3 ext3 rem3 dlc3 a3 n3 c3 hi hd hi3 hd3
  have hg1 : id ≤ if ext then 536870911 else 2047 := by unfold riF at h1; simp only [Bool.and_eq_true, decide_eq_true_eq] at h1; exact h1.1.1
  have hg2 : id2 ≤ if ext2 then 536870911 else 2047 := by unfold riF at h2; simp only [Bool.and_eq_true, decide_eq_true_eq] at h2; exact h2.1.1
  have ho : Ord id ext rem id2 ext2 rem2 _ _ := bf_ord hg1 hg2
  have ht := bfL_trans (conL id ext rem) (conL id2 ext2 rem2) (conL id3 ext3 rem3)
  simp only [h1, h2, h3, Bool.true_and] at cR cR2 cR3 cX cY cZ cU
  obtain ⟨x, hx⟩ : ∃ x, x = bfL (conL id ext rem) (conL id2 ext2 rem2) := ⟨_, rfl⟩
  obtain ⟨y, hy⟩ : ∃ y, y = bfL (conL id2 ext2 rem2) (conL id ext rem) := ⟨_, rfl⟩
  obtain ⟨z, hz⟩ : ∃ z, z = bfL (conL id2 ext2 rem2) (conL id3 ext3 rem3) := ⟨_, rfl⟩
  obtain ⟨u, hu⟩ : ∃ u, u = bfL (conL id ext rem) (conL id3 ext3 rem3) := ⟨_, rfl⟩
  simp only [← hx] at cX
  simp only [← hy] at cY
  simp only [← hz] at cZ
  simp only [← hu] at cU
  rw [← hx, ← hy] at ho
  rw [← hx, ← hz, ← hu] at ht
  clear hx hy hz hu h1 h2 h3 hg1 hg2
  obtain ⟨sm, hsm⟩ : ∃ sm, sm = decide (id = id2 ∧ ext = ext2 ∧ rem = rem2) := ⟨_, rfl⟩
  have HSM := hid hsm; clear hsm
  have HO : Hid (Ord id ext rem id2 ext2 rem2 x y) := ho
  have HT : Hid (x = true → z = true → u = true) := ht
  clear ho ht
  go_enter Try.func7, Try.ntmps7
  go_upto_region 3 with (first
    | (go_at_call 13; rw [hw0.out]; (with_reducible refine (cR w0).mono ?_); rintro e w1 ⟨rfl, g1⟩; obtain ⟨x0, x1, x2, x3, x4⟩ := bx5 (bx_below hby g1))
    | (go_at_call 13; (with_reducible refine (cR2 w1).mono ?_); rintro e w2 ⟨rfl, g2⟩; clear x0 x1 x2 x3 x4; obtain ⟨x0, x1, x2, x3, x4⟩ := bx5 (bx_below (bx_below hbz g1) g2))
    | (go_at_call 13; (with_reducible refine (cR3 w2).mono ?_); rintro e w3 ⟨rfl, g3⟩; clear x0 x1 x2 x3 x4; have g03 := bstep (bstep g1 g2) g3))
  have gg3 := bstep gg0 g03
  have hbx3 := bx_below hbx g03
  have hby3 := bx_below hby g03
  have hbz3 := bx_below hbz g03
  clear hbx hby hbz g1 g2 g3 g03 gg0 hw0 cR cR2 cR3
  obtain ⟨x0, x1, x2, x3, x4⟩ := bx5 hbx3
  obtain ⟨y0, y1, y2, y3, y4⟩ := bx5 hby3
  go_cut [7] (fun s7 wx => s7 = .bool sm ∧ wx = w3)
  case first =>
    clear cX cY cZ cU
    by_cases e1 : id = id2
    · by_cases e2 : ext = ext2
      · have e1' : ((id : Int) == (id2 : Int)) = true := by simp; omega
        have e2' : (ext == ext2) = true := by simpa using e2
        have HF : Hid ((rem == rem2) = sm) := by show _ = _; rw [HSM.out, Bool.eq_iff_iff]; simp [e1, e2]
        clear e1 e2
        go_wp2_with fail
        go_meet
        exact ⟨congrArg Value.bool HF.out, rfl⟩
      · have e1' : ((id : Int) == (id2 : Int)) = true := by simp; omega
        have e2' : (ext == ext2) = false := by simpa using e2
        have HF : Hid (false = sm) := by show _ = _; rw [HSM.out]; exact (decide_eq_false (by simp [e2])).symm
        clear e1 e2
        go_wp2_with fail
        go_meet
        exact ⟨congrArg Value.bool HF.out, rfl⟩
    · have e1' : ((id : Int) == (id2 : Int)) = false := by simp; omega
      have HF : Hid (false = sm) := by show _ = _; rw [HSM.out]; exact (decide_eq_false (by simp [e1])).symm
      clear e1
      go_wp2_with fail
      go_meet
      exact ⟨congrArg Value.bool HF.out, rfl⟩
  case rest =>
    obtain ⟨rfl, rfl⟩ := hcut
    obtain ⟨v0, v1, v2, v3, v4⟩ := cells5O hbx3
    obtain ⟨t0, t1, t2, t3, t4⟩ := cells5O hby3
    clear x0 x1 x2 x3 x4 y0 y1 y2 y3 y4
    go_upto_region 4 with fail
    refine wp_region_quiet_below (by kernel_rfl) (by kernel_rfl) ?_
    repeat (go_big_quiet_step (first
      | (go_at_call 17; with_reducible exact Calls.regrown_of (cX _))
      | (go_at_call 17; with_reducible exact Calls.regrown_of (cY _))))
    refine wpQuiet_nil ?_
    intro w9 hw9
    have g9 := regrown_below hw9
    clear hw9 v0 v1 v2 v3 v4 t0 t1 t2 t3 t4 cX cY
    have gg9 := bstep gg3 g9
    have hbx9 := bx_below hbx3 g9
    have hby9 := bx_below hby3 g9
    have hbz9 := bx_below hbz3 g9
    clear hbx3 hby3 hbz3 gg3 g9
    obtain ⟨x0, x1, x2, x3, x4⟩ := bx5 hbx9
    obtain ⟨y0, y1, y2, y3, y4⟩ := bx5 hby9
    obtain ⟨z0, z1, z2, z3, z4⟩ := bx5 hbz9
    go_upto_region 5 with fail
    go_cut [92] (fun s92 wx => s92 = .bool false ∧ Below w9.heap.size w9 wx)
    case first =>
      have HSX : Hid (x = false → y = false → sm = true) := fun q1 q2 => by rw [HSM.out]; exact decide_eq_true (HO.out.none.1 ⟨q1, q2⟩)
      have HSY : Hid (x = true ∨ y = true → sm = false) := fun q => by
        rw [HSM.out]
        refine decide_eq_false fun e => ?_
        obtain ⟨q1, q2⟩ := HO.out.none.2 e
        rcases q with q | q
        · rw [q] at q1; cases q1
        · rw [q] at q2; cases q2
      have HOne : Hid (x = true → y = false) := HO.out.one
      cases x
      · cases y
        · obtain rfl := HSX.out rfl rfl
          clear HSX HSY HOne
          go_wp2_with fail
          go_meet
          exact ⟨rfl, Below.refl _ _⟩
        · obtain rfl := HSY.out (.inr rfl)
          clear HSX HSY HOne
          go_wp2_with fail
          go_meet
          exact ⟨rfl, Below.refl _ _⟩
      · obtain rfl := HOne.out rfl
        obtain rfl := HSY.out (.inl rfl)
        clear HSX HSY HOne
        cases z
        · go_wp2_with (first
            | (go_at_call 17; (with_reducible refine (cZ w9).mono ?_); rintro e w10 ⟨rfl, g10⟩))
          go_meet
          exact ⟨rfl, g10⟩
        · obtain rfl := HT.out rfl rfl
          go_wp2_with (first
            | (go_at_call 17; (with_reducible refine (cZ w9).mono ?_); rintro e w10 ⟨rfl, g10⟩; clear x0 x1 x2 x3 x4 y0 y1 y2 y3 y4 z0 z1 z2 z3 z4; obtain ⟨x0, x1, x2, x3, x4⟩ := bx5 (bx_below hbx9 g10); obtain ⟨z0, z1, z2, z3, z4⟩ := bx5 (bx_below hbz9 g10))
            | (go_at_call 17; (with_reducible refine (cU w10).mono ?_); rintro e w11 ⟨rfl, g11⟩))
          go_meet
          exact ⟨rfl, bstep g10 g11⟩
    case rest =>
      obtain ⟨rfl, g12⟩ := hcut
      have gg12 := bstep gg9 g12
      have hbx12 := bx_below hbx9 g12
      have hby12 := bx_below hby9 g12
      clear hbx9 hby9 hbz9 gg9 g12 cZ cU HT HSM x0 x1 x2 x3 x4 y0 y1 y2 y3 y4 z0 z1 z2 z3 z4
      obtain ⟨x0, x1, x2, x3, x4⟩ := bx5 hbx12
      obtain ⟨y0, y1, y2, y3, y4⟩ := bx5 hby12
      clear x4 y4 x3 y3
      go_upto_region 7 with fail
      go_cut [108] (fun s108 wx => s108 = .bool false ∧ wx.heap[w.heap.size]? = some (.cells #[.int .u32 (id : Int), .bool ext, .bool rem, .int .u8 (dlc : Int), .slice a n c] 25 (0, 0)) ∧ wx.heap[w.heap.size + 1]? = some (.cells #[.int .u32 (id2 : Int), .bool ext2, .bool rem2, .int .u8 (dlc2 : Int), .slice a2 n2 c2] 25 (0, 0)) ∧ Below w.heap.size w wx)
      case first =>
        have HL : Hid (ext = ext2 → id < id2 → x = true) := HO.out.less
        by_cases e2 : ext = ext2
        · have e2' : (ext == ext2) = true := by simpa using e2
          by_cases e1 : id < id2
          · obtain rfl := HL.out e2 e1
            have i1 : (id : Int) < (id2 : Int) := by omega
            have i2 : decide (id < id2) = true := by simpa using e1
            have i3 : decide ((id : Int) < (id2 : Int)) = true := by simpa using e1
            clear HL e2
            go_wp2_with fail
            go_meet
            exact ⟨rfl, hbx12, hby12, gg12⟩
          · have i1 : ¬ (id : Int) < (id2 : Int) := by omega
            have i2 : decide (id < id2) = false := by simpa using e1
            have i3 : decide ((id : Int) < (id2 : Int)) = false := by simpa using e1
            clear HL e2
            go_wp2_with fail
            go_meet
            exact ⟨rfl, hbx12, hby12, gg12⟩
        · have e2' : (ext == ext2) = false := by simpa using e2
          clear HL e2
          go_wp2_with fail
          go_meet
          exact ⟨rfl, hbx12, hby12, gg12⟩
      case rest =>
        clear x0 x1 x2 y0 y1 y2 hbx12 hby12 gg12
        obtain ⟨rfl, hbx12, hby12, gg12⟩ := hcut
        obtain ⟨x0, x1, x2, x3, x4⟩ := bx5 hbx12
        obtain ⟨y0, y1, y2, y3, y4⟩ := bx5 hby12
        clear x3 x4 y3 y4
        go_upto_region 9 with fail
        go_cut [127] (fun s127 wx => s127 = .bool false ∧ wx.heap[w.heap.size]? = some (.cells #[.int .u32 (id : Int), .bool ext, .bool rem, .int .u8 (dlc : Int), .slice a n c] 25 (0, 0)) ∧ wx.heap[w.heap.size + 1]? = some (.cells #[.int .u32 (id2 : Int), .bool ext2, .bool rem2, .int .u8 (dlc2 : Int), .slice a2 n2 c2] 25 (0, 0)) ∧ Below w.heap.size w wx)
        case first =>
          have HL : Hid (ext = false → ext2 = true → id = id2 / 262144 → x = true) := HO.out.base
          obtain ⟨q, hq⟩ : ∃ q, q = id2 / 262144 := ⟨_, rfl⟩
          have hsh : Op.shift .shr .u32 (id2 : Int) .u64 18 = pure (.int .u32 (q : Int)) := by
            rw [shift_shr_any _ _ _ _ (by omega), hq]
            rfl
          rw [← hq] at HL
          clear hq
          cases ext
          · cases ext2
            · clear HL
              go_wp2_with fail
              go_meet
              exact ⟨rfl, hbx12, hby12, gg12⟩
            · by_cases e1 : id = q
              · obtain rfl := HL.out rfl rfl e1
                have i3 : ((id : Int) == (q : Int)) = true := by simp; omega
                clear HL e1
                go_wp2_with fail
                go_meet
                exact ⟨rfl, hbx12, hby12, gg12⟩
              · have i3 : ((id : Int) == (q : Int)) = false := by simp; omega
                clear HL e1
                go_wp2_with fail
                go_meet
                exact ⟨rfl, hbx12, hby12, gg12⟩
          · clear HL
            go_wp2_with fail
            go_meet
            exact ⟨rfl, hbx12, hby12, gg12⟩
        case rest =>
          clear x0 x1 x2 y0 y1 y2 hbx12 hby12 gg12
          obtain ⟨rfl, hbx12, hby12, gg12⟩ := hcut
          obtain ⟨x0, x1, x2, x3, x4⟩ := bx5 hbx12
          obtain ⟨y0, y1, y2, y3, y4⟩ := bx5 hby12
          clear x3 x4 y3 y4
          have HL : Hid (id = id2 → ext = ext2 → rem = false → rem2 = true → x = true) := HO.out.data
          by_cases e1 : id = id2
          · have i1 : ((id : Int) == (id2 : Int)) = true := by simp; omega
            have i1' : ((id : Int) != (id2 : Int)) = false := by simp; omega
            by_cases e2 : ext = ext2
            · have i2 : (ext == ext2) = true := by simpa using e2
              cases rem
              · cases rem2
                · clear HL e1 e2
                  go_wp2_with (go_at_call 10; refine (awake4_any _).mono ?_; rintro e w20 ⟨rfl, g20⟩)
                  go_ret
                  exact ⟨rfl, bstep gg12 g20⟩
                · obtain rfl := HL.out e1 e2 rfl rfl
                  clear HL e1 e2
                  go_wp2_with (go_at_call 10; refine (awake4_any _).mono ?_; rintro e w20 ⟨rfl, g20⟩)
                  go_ret
                  exact ⟨rfl, bstep gg12 g20⟩
              · clear HL e1 e2
                go_wp2_with (go_at_call 10; refine (awake4_any _).mono ?_; rintro e w20 ⟨rfl, g20⟩)
                go_ret
                exact ⟨rfl, bstep gg12 g20⟩
            · have i2 : (ext == ext2) = false := by simpa using e2
              clear HL e1 e2
              go_wp2_with (go_at_call 10; refine (awake4_any _).mono ?_; rintro e w20 ⟨rfl, g20⟩)
              go_ret
              exact ⟨rfl, bstep gg12 g20⟩
          · have i1 : ((id : Int) == (id2 : Int)) = false := by simp; omega
            have i1' : ((id : Int) != (id2 : Int)) = true := by simp; omega
            clear HL e1
            go_wp2_with (go_at_call 10; refine (awake4_any _).mono ?_; rintro e w20 ⟨rfl, g20⟩)
            go_ret
            exact ⟨rfl, bstep gg12 g20⟩

theorem frameOrder_walk (w : World) (id : Nat) (ext rem : Bool) (dlc : Nat) (a : Option Addr) (n c : Nat) (l : List UInt8) (id2 : Nat) (ext2 rem2 : Bool) (dlc2 : Nat) (a2 : Option Addr) (n2 c2 : Nat) (l2 : List UInt8) (id3 : Nat) (ext3 rem3 : Bool) (dlc3 : Nat) (a3 : Option Addr) (n3 c3 : Nat) (l3 : List UInt8)
    (hi : id < 4294967296) (hd : dlc < 256) (h : RL bv w a n c l) (hi2 : id2 < 4294967296) (hd2 : dlc2 < 256) (h2 : RL bv w a2 n2 c2 l2) (hi3 : id3 < 4294967296) (hd3 : dlc3 < 256) (h3 : RL bv w a3 n3 c3 l3) (m1 : n ≤ 9223372036854775807) (m2 : n2 ≤ 9223372036854775807) (m3 : n3 ≤ 9223372036854775807) :
    Calls Try.prog 7 #[.agg #[.int .u32 (id : Int), .bool ext, .bool rem, .int .u8 (dlc : Int), .slice a n c], .agg #[.int .u32 (id2 : Int), .bool ext2, .bool rem2, .int .u8 (dlc2 : Int), .slice a2 n2 c2], .agg #[.int .u32 (id3 : Int), .bool ext3, .bool rem3, .int .u8 (dlc3 : Int), .slice a3 n3 c3]] w fun e w' => e = .returned (.bool true) ∧ Below w.heap.size w w' := by
  cases h1 : riF id ext rem dlc n
  · exact frameOrder_wrong w id ext rem dlc a n c id2 ext2 rem2 dlc2 a2 n2 c2 id3 ext3 rem3 dlc3 a3 n3 c3 hi hd hi2 hd2 hi3 hd3 (.inl h1)
  · cases h2' : riF id2 ext2 rem2 dlc2 n2
    · exact frameOrder_wrong w id ext rem dlc a n c id2 ext2 rem2 dlc2 a2 n2 c2 id3 ext3 rem3 dlc3 a3 n3 c3 hi hd hi2 hd2 hi3 hd3 (.inr (.inl ⟨h1, h2'⟩))
    · cases h3' : riF id3 ext3 rem3 dlc3 n3
      · exact frameOrder_wrong w id ext rem dlc a n c id2 ext2 rem2 dlc2 a2 n2 c2 id3 ext3 rem3 dlc3 a3 n3 c3 hi hd hi2 hd2 hi3 hd3 (.inr (.inr ⟨h1, h2', h3'⟩))
      · exact frameOrder_right w id ext rem dlc a n c id2 ext2 rem2 dlc2 a2 n2 c2 id3 ext3 rem3 dlc3 a3 n3 c3 hi hd hi2 hd2 hi3 hd3 h1 h2' h3'
end Go.Proofs.Ytcgpdldccfpjgaa
