/-
  Contracts: a filter made right; the chapter's examples.
-/
import Derived.Test.YtmaklneiedljjaaB11e
namespace Go.Proofs.Ytmaklneiedljjaa
open Go.RowKit Go.Sort
set_option linter.unusedVariables false

theorem and_u32 (a b : Nat) (ha : a < 4294967296) (hb : b < 4294967296) : bits .and .u32 (a : Int) (b : Int) = ((a &&& b : Nat) : Int) := (u32_bits a b ha hb).1

theorem ones3 (e : Bool) (p q : Int) : (#[.bool e, .int .u32 p, .int .u32 q] : Array Value).all (·.oneCell') = true := by simp [Value.oneCell']

set_option maxHeartbeats 2000000 in
theorem mk_any (x : Fi) (hx : x.Ok) (w : World) : Calls Try.prog 20 #[.agg (fiV x)] w fun e w' => e = .returned (.agg (fiV (mkF x))) ∧ RowKit.Below w.heap.size w w' := by
  obtain ⟨e, m, a⟩ := x
  obtain ⟨h1, h2⟩ := hx
  simp only at h1 h2
  have ht := topF_lt e
  have hM := and_u32 m (topF e) h1 ht
  have hlt : m &&& topF e < 4294967296 := Nat.lt_of_le_of_lt Nat.and_le_right ht
  have hA := and_u32 a (m &&& topF e) h2 hlt
  have hmk : ∀ p q, m &&& topF e = p → a &&& (m &&& topF e) = q → mkF ⟨e, m, a⟩ = ⟨e, p, q⟩ := fun p q h3 h4 => by show (⟨e, m &&& topF e, a &&& (m &&& topF e)⟩ : Fi) = _; rw [h4, h3]
  have hmk2 := hmk _ _ rfl rfl
  clear hmk
  generalize a &&& (m &&& topF e) = q at *
  generalize m &&& topF e = p at *
  rw [hmk2]
  clear hmk2 hlt ht
  have htop : (topF e : Int) = if e = true then 536870911 else 2047 := by cases e <;> rfl
  rw [htop] at hM
  clear htop
  show Calls _ _ #[.agg #[.bool e, .int .u32 (m : Int), .int .u32 (a : Int)]] w fun r w' => r = .returned (.agg #[.bool e, .int .u32 (p : Int), .int .u32 (q : Int)]) ∧ _
  obtain ⟨w0, hw0, b1, b2, g0⟩ := boxed11b w 25 25 #[.bool e, .int .u32 (m : Int), .int .u32 (a : Int)] #[.bool false, .int .u32 0, .int .u32 0]
  obtain ⟨y0, y1, y2⟩ := bx3 b1
  have f1 := bx_thaw b1 1
  have f2 := bx_thaw b1 2
  have c1 := heap_setCell_same w0 w.heap.size 1 _ _ (.int .u32 (p : Int)) b1
  have c2 := heap_setCell_same _ w.heap.size 2 _ _ (.int .u32 (q : Int)) c1
  have c3 : ((w0.setCell ⟨w.heap.size, 1, none⟩ (.int .u32 (p : Int))).setCell ⟨w.heap.size, 2, none⟩ (.int .u32 (q : Int))).heap[w.heap.size + 1]? = some (.cells #[.bool false, .int .u32 0, .int .u32 0] 25 (0, 0)) := by
    rw [RowKit.Below.heap_setCell _ _ _ _ (by simp), RowKit.Below.heap_setCell _ _ _ _ (by simp)]; exact b2
  have c2' : ((w0.setCell ⟨w.heap.size, 1, none⟩ (.int .u32 (p : Int))).setCell ⟨w.heap.size, 2, none⟩ (.int .u32 (q : Int))).heap[w.heap.size]? = some (.cells #[.bool e, .int .u32 (p : Int), .int .u32 (q : Int)] 25 (0, 0)) := c2
  clear c1 c2
  have g2 : RowKit.Below w.heap.size w ((w0.setCell ⟨w.heap.size, 1, none⟩ (.int .u32 (p : Int))).setCell ⟨w.heap.size, 2, none⟩ (.int .u32 (q : Int))) := RowKit.Below.setCell (RowKit.Below.setCell g0 (by simp) _) (by simp) _
  have c4 := setRow_heap _ _ _ #[.bool e, .int .u32 (p : Int), .int .u32 (q : Int)] _ _ c3
  have g3 := below_setRow g2 (show w.heap.size ≤ w.heap.size + 1 by omega) #[.bool e, .int .u32 (p : Int), .int .u32 (q : Int)]
  cases e
  · have hM : bits .and .u32 (m : Int) 2047 = (p : Int) := hM
    go_enter Try.func20, Try.ntmps20
    go_upto_region 1 with fail
    rw [hw0.out]
    go_wp2_with (first
      | (with_reducible refine wpList_loadR rowFi rfl _ rfl _ rfl c2' rfl ?_)
      | (with_reducible refine wpList_storeR rowFi rfl _ _ rfl _ _ rfl rfl c3 rfl rfl (ones3 _ _ _) ?_))
    exact bodyPost_ret (results_row rowFi rfl _ _ _ rfl c4 rfl) rfl ⟨rfl, g3⟩
  · have hM : bits .and .u32 (m : Int) 536870911 = (p : Int) := hM
    go_enter Try.func20, Try.ntmps20
    go_upto_region 1 with fail
    rw [hw0.out]
    go_wp2_with (first
      | (with_reducible refine wpList_loadR rowFi rfl _ rfl _ rfl c2' rfl ?_)
      | (with_reducible refine wpList_storeR rowFi rfl _ _ rfl _ _ rfl rfl c3 rfl rfl (ones3 _ _ _) ?_))
    exact bodyPost_ret (results_row rowFi rfl _ _ _ rfl c4 rfl) rfl ⟨rfl, g3⟩

theorem lit_fi (w : World) (x : Fi) : OK fiE 3 25 w.heap.size (w.alloc (.cells (fiV x) 25)) (some ⟨w.heap.size, 0, none⟩) 1 1 [x] := ok_lit eFi 25 _ w [x] _ 1 rfl rfl (by omega) (Nat.le_refl _)
theorem lit_fi2 (w : World) (x y : Fi) : OK fiE 3 25 w.heap.size (w.alloc (.cells #[.bool x.ext, .int .u32 (x.mask : Int), .int .u32 (x.mat : Int), .bool y.ext, .int .u32 (y.mask : Int), .int .u32 (y.mat : Int)] 25)) (some ⟨w.heap.size, 0, none⟩) 2 2 [x, y] :=
  ok_lit eFi 25 _ w [x, y] _ 2 rfl rfl (by omega) (Nat.le_refl _)

abbrev exX : Fi := ⟨false, 1792, 256⟩
theorem exX_ok : ∀ x ∈ [exX], x.Ok := fun x hx => by simp at hx; subst hx; decide
theorem aw_pass (w : World) (a : Option Addr) (id : Nat) (e r : Bool) (hi : id < 4294967296) (h : RK fiE 3 w a 1 1 [exX]) (hr : passF id e [exX] = r) :
    Calls Try.prog 13 #[.slice a 1 1, .agg #[.int .u32 (id : Int), .bool e, .bool false, .int .u8 0, .slice none 0 0]] w fun q w' => q = .returned (.bool r) ∧ RowKit.Below w.heap.size w w' := by
  rw [← hr]
  exact fiPass_any w a 1 1 [exX] id e false (.int .u8 0) (.slice none 0 0) h exX_ok (by omega) hi
theorem aw_only (w : World) (a : Option Addr) (h : RL wv w a 3 3 [5, 3, 5]) :
    Calls Try.prog 11 #[.slice a 3 3, .bool false] w fun r w' => ∃ (a' : Option Addr) (m c' : Nat), r = .returned (.tuple #[.slice a' m c', .int .i64 0]) ∧ RK fiE 3 w' a' m c' [⟨false, 2047, 3⟩, ⟨false, 2047, 5⟩] ∧ RowKit.Below w.heap.size w w' := by
  refine (only_any w a 3 3 [5, 3, 5] false h (by omega)).mono ?_
  rintro r w' ⟨a', m, c', rfl, o, g⟩
  exact ⟨a', m, c', rfl, o.rk eFi, g⟩
theorem aw_only2 (w : World) (a : Option Addr) (h : RL wv w a 1 1 [2048]) :
    Calls Try.prog 11 #[.slice a 1 1, .bool false] w fun r w' => ∃ (a' : Option Addr) (m c' : Nat), r = .returned (.tuple #[.slice a' m c', .int .i64 2]) ∧ RowKit.Below w.heap.size w w' := by
  refine (only_any w a 1 1 [2048] false h (by omega)).mono ?_
  rintro r w' ⟨a', m, c', rfl, o, g⟩
  exact ⟨a', m, c', rfl, g⟩
theorem aw_cov (w : World) : Calls Try.prog 17 #[.agg #[.bool false, .int .u32 0, .int .u32 0], .agg #[.bool false, .int .u32 1792, .int .u32 256]] w fun r w' => r = .returned (.bool true) ∧ RowKit.Below w.heap.size w w' :=
  covers_any ⟨false, 0, 0⟩ exX (by decide) (by decide) w
theorem aw_cov2 (w : World) : Calls Try.prog 17 #[.agg #[.bool false, .int .u32 1792, .int .u32 256], .agg #[.bool false, .int .u32 0, .int .u32 0]] w fun r w' => r = .returned (.bool false) ∧ RowKit.Below w.heap.size w w' :=
  covers_any exX ⟨false, 0, 0⟩ (by decide) (by decide) w
end Go.Proofs.Ytmaklneiedljjaa
