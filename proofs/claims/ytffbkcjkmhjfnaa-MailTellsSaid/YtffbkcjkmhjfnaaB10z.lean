/-
  Contracts of the document's own answers on mails: the best one is put on the wire.
-/
import Derived.Test.YtffbkcjkmhjfnaaB10y
namespace Go.Proofs.Ytffbkcjkmhjfnaa
open Go.RowKit Go.Sort
set_option linter.unusedVariables false
set_option linter.unusedSimpArgs false

section
variable {B : Nat} {w w1 w3 w4 w5 w' : World} {a a' : Option Addr} {c c' room wire last r : Nat} {L L' : List Sl} {S T T' : Nat → Prop}

set_option maxRecDepth 100000 in
set_option maxHeartbeats 4000000 in
theorem rstart_of (w : World) (h : LmO B w a c L T) (N : Nat) (F : Fr) (fa : Option Addr) (fc : Nat) (ok : Bool)
    (hb : ∀ w1, Below w.heap.size w w1 → Calls Try.prog 8 #[.agg (smV room a c L wire last)] w1 fun e w' => e = .returned (.tuple #[.int .i64 (N : Int), .agg (frV F fa fc), .bool ok]) ∧ Below w1.heap.size w1 w') :
    Calls Try.prog 23 #[.agg (smV room a c L wire last)] w (RmR B w room L N last T fun v => .returned (.tuple #[v, .int .i64 (N : Int), .bool ok])) := by
  obtain ⟨r, w1, hw1, HR, b1, r1, g1, hr0, hr1⟩ := sm_boxes w (smV room a c L wire last)
  have HB := hid (hb w1 g1)
  have h1 := h.below g1
  have hT := hid h.tL
  clear hb h
  go_enter Try.func23, Try.ntmps23
  go_wp2_with (first
    | (rw [hw1.out, HR.out])
    | (with_reducible refine wpList_loadR rowSm rfl _ rfl _ rfl b1 rfl ?_)
    | (go_at_call 8; (with_reducible refine Calls.mono HB.out ?_); rintro e w2 ⟨rfl, g2⟩
       have b2 := bx_alloc (.cells frZr 34) (bx_below b1 g2)
       have r2 := bx_alloc (.cells frZr 34) (bx_below r1 g2)
       have f2 := heap_alloc_new w2 (.cells frZr 34)
       have gg2 := bnew (bstep g1 g2) (.cells frZr 34)
       have g12 := bnew g2 (.cells frZr 34)
       have hw2 : w.heap.size < w2.heap.size := bx_lt (bx_below b1 g2)
       have hr2 : r < w2.heap.size := bx_lt (bx_below r1 g2))
    | (with_reducible refine wpList_storeR rowF rfl _ _ rfl _ _ rfl rfl f2 rfl rfl (fr_ones _ _ _) ?_
       have b3 := (setRow_other (w2.alloc (.cells frZr 34)) w2.heap.size w.heap.size (frV F fa fc) (Nat.ne_of_lt hw2)).trans b2
       have r3 := (setRow_other (w2.alloc (.cells frZr 34)) w2.heap.size r (frV F fa fc) (Nat.ne_of_lt hr2)).trans r2
       have g13 : Below w1.heap.size w1 ((w2.alloc (.cells frZr 34)).setRow w2.heap.size (frV F fa fc)) := below_setRow g12 g2.size _
       clear b2 r2 f2 gg2 g12
       generalize (w2.alloc (.cells frZr 34)).setRow w2.heap.size (frV F fa fc) = W3 at *
       have f3 := bx_thaw b3
       have x3 := (bx4m b3).2.2.1
       have b4 := sm_wire N b3
       have r4 : (W3.setCell ⟨w.heap.size, 2, none⟩ (.int .i64 (N : Int))).heap[r]? = some (.cells smZ 30 (0, 0)) := (Below.heap_setCell _ _ _ _ (Nat.ne_of_gt hr0)).trans r3)
    | (with_reducible refine wpList_loadR rowSm rfl _ rfl _ rfl b4 rfl ?_)
    | (with_reducible refine wpList_storeR rowSm rfl _ _ rfl _ _ rfl rfl r4 rfl rfl (sm_ones _ _ _ _ _ _) ?_))
  have gg4 : Below w.heap.size w (W3.setCell ⟨w.heap.size, 2, none⟩ (.int .i64 (N : Int))) := (bstep g1 g13).setCell (Nat.le_refl _) _
  have k4 : Ch (fun b => b = w.heap.size) W3 (W3.setCell ⟨w.heap.size, 2, none⟩ (.int .i64 (N : Int))) := Ch.setCell (S := fun b => b = w.heap.size) (Ch.refl _ W3) (p := ⟨w.heap.size, 2, none⟩) (.inl rfl) _
  exact bodyPost_ret (v := .tuple #[.agg (smV room a c L N last), .int .i64 (N : Int), .bool ok]) (results_row12 rowSm rfl _ _ _ rfl rfl rfl (setRow_heap _ _ _ _ _ _ r4) rfl) rfl
    (rm_lay (fun v => Ending.returned (.tuple #[v, .int .i64 (N : Int), .bool ok])) hT.out gg4 (Nat.le_of_lt hr0) (bx_lt r4) ((h1.below g13).ch k4 (fun b hb e => by have := hT.out b hb; omega)) (Below.refl _ _) (fun k hk => .inl hk) _)
end
end Go.Proofs.Ytffbkcjkmhjfnaa
