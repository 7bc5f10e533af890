/-
  Contracts of what the statements of layer 2 use to write bits as texts, and the chapter's examples: 'awake' returns true.
-/
import Derived.Test.YthdjocfnkhhghaaB2e
import Derived.Lib.OthersKept
namespace Go.Proofs.Ythdjocfnkhhghaa
open Go.RowKit
set_option linter.unusedVariables false

/-- A text of r and d. -/
def txt (l : List Bool) : ByteArray := ⟨(l.map chB).toArray⟩

theorem txt_size (l : List Bool) : (txt l).size = l.length := by
  show (l.map chB).toArray.size = l.length
  simp

theorem txt_get {l : List Bool} {k : Nat} {x : Bool} (h : l[k]? = some x) (hk : k < (txt l).size) : (txt l)[k]'hk = chB x := by
  obtain ⟨h1, h2⟩ := List.getElem?_eq_some_iff.1 h
  show (l.map chB).toArray[k]'(by simpa using h1) = chB x
  simp [h2]

theorem lawOf_any (w : World) (l : List Bool) (hn : l.length ≤ 100000) :
    Calls Try.prog 17 #[.string (txt l)] w fun e w' => ∃ a' c', e = .returned (.slice a' l.length c') ∧ OL .bool 4 w.heap.size w' a' l.length c' l ∧ Below w.heap.size w w' := by
  obtain ⟨s, hs⟩ : ∃ s, s = txt l := ⟨_, rfl⟩
  have hsz : s.size = l.length := by rw [hs, txt_size]
  have hget : Hid (∀ (k : Nat) (x : Bool) (hk : k < s.size), l[k]? = some x → (s[k]'hk).toNat = (chB x).toNat) := by
    subst hs; exact fun k x hk h => by rw [txt_get h hk]
  rw [← hs]
  clear hs
  go_enter Try.func17, Try.ntmps17
  go_wp2
  go_loopw [3] (fun v wr => ∃ (k : Nat) (a' : Option Addr) (c' : Nat), k ≤ l.length ∧ v = .slice a' k c' ∧ OL .bool 4 (w.heap.size + 1) wr a' k c' (l.take k) ∧ wr.heap[w.heap.size]? = some (.stringIter s k) ∧ Below w.heap.size w wr ∧ w.heap.size + 1 ≤ wr.heap.size) (fun _ wr => l.length - wr.iterPos w.heap.size)
  case atStart => exact ⟨0, none, 0, Nat.zero_le _, rfl, OL.nil _ _ _ _, World.iter_heap w s 0, bnew0 _ _, by simp [World.iter]⟩
  case round =>
    obtain ⟨k, a', c', hk, rfl, hol, hit, hb, hs1⟩ := hrel
    by_cases hlt : k < l.length
    · obtain ⟨x, hx⟩ : ∃ x, l[k]? = some x := ⟨l[k], by simp [hlt]⟩
      have hp : k < s.size := by rw [hsz]; exact hlt
      have hv := hget.out k x hp hx
      have hit2 := Lib.iterAt_heap wr w.heap.size s k (k + 1) hit
      have hb2 := Lib.below_iterAt hb (k := w.heap.size) (by omega) s (k + 1)
      have hol2 : OL .bool 4 (w.heap.size + 1) (wr.iterAt w.heap.size s (k + 1)) a' k c' (l.take k) := ⟨hol.len, hol.cap, ownsRow_iterAt hol.own (by omega) s (k + 1)⟩
      have hs2 : w.heap.size + 1 ≤ (wr.iterAt w.heap.size s (k + 1)).heap.size := by rw [Lib.iterAt_size]; exact hs1
      have HX := hid hx
      obtain ⟨wi, hwi⟩ : ∃ wi, wi = wr.iterAt w.heap.size s (k + 1) := ⟨_, rfl⟩
      have hnx : ∀ ty, (Instr.next (.pointer (some ⟨w.heap.size, 0, none⟩)) true ty).run Try.prog wr = .ok (.tuple #[.bool true, .int .i64 k, .int .i32 ((chB x).toNat : Int)]) wi := fun ty => by
        rw [Lib.run_next_ascii_at wr w.heap.size s k ty hit hp (by rw [hv]; cases x <;> decide), hwi, hv]
      rw [← hwi] at hit2 hb2 hol2 hs2
      clear hx hv hwi
      cases x
      · have hnx2 : ∀ ty, (Instr.next (.pointer (some ⟨w.heap.size, 0, none⟩)) true ty).run Try.prog wr = .ok (.tuple #[.bool true, .int .i64 k, .int .i32 100]) wi := hnx
        clear hnx
        go_wp2_with (at_builtin; refine wpList_app (f := Value.bool) tB rfl _ _ rfl rfl (hol2.alloc _) rfl (ol_lit Value.bool _ 0 wi [false] _ 1 rfl rfl (by omega) (Nat.zero_le _)).rl (fun _ => rfl) (by omega) (by omega) (by simp; omega) ?_; intro w3 a3 c3 hol3 hb3; have hs3 := hb3.size; have hit3 : w3.heap[w.heap.size]? = some (.stringIter s (k + 1)) := by { rw [hb3.block _ (by omega)]; exact bx_alloc _ hit2 })
        go_roundw
        case rel => exact ⟨k + 1, a3, c3, by omega, rfl, by rw [take_snoc HX.out]; exact hol3, hit3, (hb2.alloc (by omega) _).trans (hb3.mono (by omega)), by rw [heap_size_alloc] at hs3; omega⟩
        case measure => simp only [World.iterPos, hit3, hit]; omega
      · have hnx2 : ∀ ty, (Instr.next (.pointer (some ⟨w.heap.size, 0, none⟩)) true ty).run Try.prog wr = .ok (.tuple #[.bool true, .int .i64 k, .int .i32 114]) wi := hnx
        clear hnx
        go_wp2_with (at_builtin; refine wpList_app (f := Value.bool) tB rfl _ _ rfl rfl (hol2.alloc _) rfl (ol_lit Value.bool _ 0 wi [true] _ 1 rfl rfl (by omega) (Nat.zero_le _)).rl (fun _ => rfl) (by omega) (by omega) (by simp; omega) ?_; intro w3 a3 c3 hol3 hb3; have hs3 := hb3.size; have hit3 : w3.heap[w.heap.size]? = some (.stringIter s (k + 1)) := by { rw [hb3.block _ (by omega)]; exact bx_alloc _ hit2 })
        go_roundw
        case rel => exact ⟨k + 1, a3, c3, by omega, rfl, by rw [take_snoc HX.out]; exact hol3, hit3, (hb2.alloc (by omega) _).trans (hb3.mono (by omega)), by rw [heap_size_alloc] at hs3; omega⟩
        case measure => simp only [World.iterPos, hit3, hit]; omega
    · obtain rfl : k = l.length := by omega
      have hnx : ∀ ty, (Instr.next (.pointer (some ⟨w.heap.size, 0, none⟩)) true ty).run Try.prog wr = .ok (.tuple #[.bool false]) wr := fun ty => Lib.run_next_end_at wr w.heap.size s _ ty hit (by omega)
      rw [List.take_length] at hol
      go_wp2
      go_ret
      exact ⟨a', c', rfl, hol.mono (by omega), hb⟩

theorem puts_true (w : World) (l : List Bool) (hn : l.length ≤ 1000) :
    Calls Try.prog 18 #[.string (txt l), .string (txt (putL l))] w fun e w' => e = .returned (.bool true) ∧ Below w.heap.size w w' := by
  have hl := (putL_len l).2
  go_enter Try.func18, Try.ntmps18
  go_wp2_with (first
    | (go_at_call 17; refine (lawOf_any w l (by omega)).mono ?_; rintro e w1 ⟨a1, c1, rfl, hol1, g1⟩)
    | (go_at_call 15; refine (put_any w1 _ _ _ _ hol1.rl (by omega)).mono ?_; rintro e w2 ⟨a2, c2, rfl, hol2, g2⟩)
    | (go_at_call 19; refine (text_any w2 _ _ _ _ hol2.rl (by omega)).mono ?_; rintro e w3 ⟨rfl, rfl⟩))
  go_ret
  exact ⟨ret_bool (by simp [txt]), bstep g1 g2⟩

theorem puts2_0 (w : World) : Calls Try.prog 18 #[.string ⟨#[100, 100, 100, 100, 100]⟩, .string ⟨#[100, 100, 100, 100, 100, 114]⟩] w fun e w' => e = .returned (.bool true) ∧ Below w.heap.size w w' :=
  puts_true w [false, false, false, false, false] (by decide)

theorem puts2_1 (w : World) : Calls Try.prog 18 #[.string ⟨#[114, 114, 114, 114, 114, 100]⟩, .string ⟨#[114, 114, 114, 114, 114, 100, 100]⟩] w fun e w' => e = .returned (.bool true) ∧ Below w.heap.size w w' :=
  puts_true w [true, true, true, true, true, false] (by decide)

theorem puts2_2 (w : World) : Calls Try.prog 18 #[.string ⟨#[100, 100, 100, 100, 100, 114, 114, 114, 114]⟩, .string ⟨#[100, 100, 100, 100, 100, 114, 114, 114, 114, 114, 100]⟩] w fun e w' => e = .returned (.bool true) ∧ Below w.heap.size w w' :=
  puts_true w [false, false, false, false, false, true, true, true, true] (by decide)

theorem of2_0 (w : World) : Calls Try.prog 17 #[.string ⟨#[100, 100, 100, 100, 100, 114, 114, 114, 114, 114, 100]⟩] w fun e w' => ∃ a' c', e = .returned (.slice a' 11 c') ∧ OL .bool 4 w.heap.size w' a' 11 c' [false, false, false, false, false, true, true, true, true, true, false] ∧ Below w.heap.size w w' :=
  lawOf_any w [false, false, false, false, false, true, true, true, true, true, false] (by decide)

theorem of2_1 (w : World) : Calls Try.prog 17 #[.string ⟨#[114, 114, 114, 114, 114, 114]⟩] w fun e w' => ∃ a' c', e = .returned (.slice a' 6 c') ∧ OL .bool 4 w.heap.size w' a' 6 c' [true, true, true, true, true, true] ∧ Below w.heap.size w w' :=
  lawOf_any w [true, true, true, true, true, true] (by decide)

theorem take2_0 (w : World) (a : Option Addr) (c : Nat) (h : RL .bool w a 11 c [false, false, false, false, false, true, true, true, true, true, false]) : Calls Try.prog 12 #[.slice a 11 c] w fun e w' => ∃ a' c', e = .returned (.tuple #[.slice a' 9 c', .int .i64 (-1)]) ∧ OL .bool 4 w.heap.size w' a' 9 c' [false, false, false, false, false, true, true, true, true] ∧ Below w.heap.size w w' :=
  take_any w a 11 c _ h (by omega)

theorem take2_1 (w : World) (a : Option Addr) (c : Nat) (h : RL .bool w a 6 c [true, true, true, true, true, true]) : Calls Try.prog 12 #[.slice a 6 c] w fun e w' => ∃ a' c', e = .returned (.tuple #[.slice a' 5 c', .int .i64 5]) ∧ OL .bool 4 w.heap.size w' a' 5 c' [true, true, true, true, true] ∧ Below w.heap.size w w' :=
  take_any w a 6 c _ h (by omega)

theorem text2_0 (w : World) (a : Option Addr) (c : Nat) (h : RL .bool w a 9 c [false, false, false, false, false, true, true, true, true]) : Calls Try.prog 19 #[.slice a 9 c] w fun e w' => e = .returned (.string ⟨#[100, 100, 100, 100, 100, 114, 114, 114, 114]⟩) ∧ w = w' :=
  text_any w a 9 c _ h (by omega)

theorem text2_1 (w : World) (a : Option Addr) (c : Nat) (h : RL .bool w a 5 c [true, true, true, true, true]) : Calls Try.prog 19 #[.slice a 5 c] w fun e w' => e = .returned (.string ⟨#[114, 114, 114, 114, 114]⟩) ∧ w = w' :=
  text_any w a 5 c _ h (by omega)

theorem awake2_any (w : World) :
    Calls Try.prog 7 #[] w fun e w' => e = .returned (.bool true) ∧ Below w.heap.size w w' := by
  go_enter Try.func7, Try.ntmps7
  go_wp2_with (first
    | (go_at_call 17; (with_reducible refine (of2_0 w).mono ?_); rintro e w1 ⟨a1, c1, rfl, hol1, g1⟩)
    | (go_at_call 12; (with_reducible refine (take2_0 w1 _ _ hol1.rl).mono ?_); rintro e w2 ⟨a2, c2, rfl, hol2, g2⟩; have g02 := bstep g1 g2)
    | (go_at_call 17; (with_reducible refine (of2_1 w2).mono ?_); rintro e w3 ⟨a3, c3, rfl, hol3, g3⟩; have g03 := bstep g02 g3)
    | (go_at_call 12; (with_reducible refine (take2_1 w3 _ _ hol3.rl).mono ?_); rintro e w4 ⟨a4, c4, rfl, hol4, g4⟩; have g04 := bstep g03 g4; have hx4 := (hol2.rl.below g3).below g4)
    | (go_at_call 18; (with_reducible refine (puts2_0 w4).mono ?_); rintro e w5 ⟨rfl, g5⟩; have g05 := bstep g04 g5; have hx5 := hx4.below g5; have hy5 := hol4.rl.below g5)
    | (go_at_call 18; (with_reducible refine (puts2_1 w5).mono ?_); rintro e w6 ⟨rfl, g6⟩; have g06 := bstep g05 g6; have hx6 := hx5.below g6; have hy6 := hy5.below g6)
    | (go_at_call 18; (with_reducible refine (puts2_2 w6).mono ?_); rintro e w7 ⟨rfl, g7⟩; have g07 := bstep g06 g7; have hx7 := hx6.below g7; have hy7 := hy6.below g7)
    | (go_at_call 19; (with_reducible refine (text2_0 w7 _ _ hx7).mono ?_); rintro e w8 ⟨rfl, rfl⟩)
    | (go_at_call 19; (with_reducible refine (text2_1 w7 _ _ hy7).mono ?_); rintro e w8 ⟨rfl, rfl⟩))
  go_ret
  exact ⟨rfl, g07⟩
end Go.Proofs.Ythdjocfnkhhghaa
