/-
  Lists of frames: as they lie in memory, and as an argument that came in.
  What a call changes: only blocks of a set S of old ones; all else that was there is as it was.
  Plain facts of keys: the key of a frame is a number whose bits are those that arbitration sees; the lesser one wins.
  Words on mails: frames that wait, in a list of structs; a mail in its box.
-/
import Derived.Test.YtffbkcjkmhjfnaaOpen4
import Derived.Test.YtffbkcjkmhjfnaaB1f
import Derived.Test.YtffbkcjkmhjfnaaM4b
import Derived.Deep.SlicePairs
namespace Go.Proofs.Ytffbkcjkmhjfnaa
open Go.RowKit Go.ChangeShapes Go.WideShapes Go.ChangeAt Go.Deep
set_option linter.unusedVariables false

/-- A list of frames, read. -/
structure FrR (w : World) (a : Option Addr) (n c : Nat) (fs : List Ff) : Prop where
  row : RK enF 5 w a n c fs
  dat : ∀ p ∈ fs, RL bv w p.2.1 p.1.data.length p.2.2 p.1.data
  id : ∀ p ∈ fs, p.1.id < 4294967296
  dl : ∀ p ∈ fs, p.1.dlc < 256
theorem FrR.below {w w1 : World} {a : Option Addr} {n c : Nat} {fs : List Ff} (h : FrR w a n c fs) (g : Below w.heap.size w w1) : FrR w1 a n c fs := ⟨h.row.below g, fun p hp => (h.dat p hp).below g, h.id, h.dl⟩

section
variable {H : Type} {enc : TypeId × Value → H} {P : Program} {w : World} {base : Nat} {spare : Nat → Bool} {held : Bool}

theorem open_slice_fives {t e : TypeId} {f0 f1 f2 f3 f4 : Field} {fuel : Nat} {cs : List Value} {x : DataW H × List MemPlace} (ht : P.underlying t = some (.slice e)) (he : P.underlying e = some (.struct #[f0, f1, f2, f3, f4]))
    (ce : P.cellsOf e = 5) (o0 : f0.offset = 0) (o1 : f1.offset = 1) (o2 : f2.offset = 2) (o3 : f3.offset = 3) (o4 : f4.offset = 4) (c0 : P.cellsOf f0.type = 1) (c1 : P.cellsOf f1.type = 1) (c2 : P.cellsOf f2.type = 1) (c3 : P.cellsOf f3.type = 1) (c4 : P.cellsOf f4.type = 1)
    (h : DataW.trod enc P w base spare held fuel t cs = some x) :
    cs = [.slice none 0 0] ∨
    ∃ (a : Addr) (len cap m : Nat), cs = [.slice (some a) len cap] ∧ len ≤ cap ∧ cap ≤ maxLen ∧ m = (if spare a.block then cap else len) ∧
      ∀ i, i < m → ∃ (n : Nat) (v0 v1 v2 v3 v4 : Value) (y0 y1 y2 y3 y4 : DataW H × List MemPlace), w.cell? (a.add (i * 5)) = some v0 ∧ w.cell? (a.add (i * 5 + 1)) = some v1 ∧ w.cell? (a.add (i * 5 + 2)) = some v2 ∧ w.cell? (a.add (i * 5 + 3)) = some v3 ∧ w.cell? (a.add (i * 5 + 4)) = some v4 ∧
        DataW.trod enc P w base spare held n f0.type [v0] = some y0 ∧ DataW.trod enc P w base spare held n f1.type [v1] = some y1 ∧ DataW.trod enc P w base spare held n f2.type [v2] = some y2 ∧ DataW.trod enc P w base spare held n f3.type [v3] = some y3 ∧ DataW.trod enc P w base spare held n f4.type [v4] = some y4 := by
  rcases open_slice ht h with ⟨h0, _⟩ | ⟨a, len, cap, m, n, D, plc, rfl, hb, hl, hm, hmm, rfl, hx⟩
  · exact Or.inl h0
  refine Or.inr ⟨a, len, cap, m, rfl, hl, hm, hmm, fun i hi => ?_⟩
  obtain ⟨cs', h1, h2⟩ := hx i hi
  rw [ce] at h1
  obtain ⟨_, hlen, hcell⟩ := World.cells?_some h1
  obtain ⟨xs, k, hk, hxy, _, hxl, hf⟩ := DataW.trod_struct he h2
  match xs, hxl, cs', hlen with
  | [y0, y1, y2, y3, y4], _, [v0, v1, v2, v3, v4], _ =>
    have g0 := hf 0 f0 rfl
    have g1 := hf 1 f1 rfl
    have g2 := hf 2 f2 rfl
    have g3 := hf 3 f3 rfl
    have g4 := hf 4 f4 rfl
    simp [o0, o1, o2, o3, o4, c0, c1, c2, c3, c4] at g0 g1 g2 g3 g4
    have e0 := hcell 0 (by omega)
    have e1 := hcell 1 (by omega)
    have e2 := hcell 2 (by omega)
    have e3 := hcell 3 (by omega)
    have e4 := hcell 4 (by omega)
    rw [add_add] at e0 e1 e2 e3 e4
    exact ⟨k, v0, v1, v2, v3, v4, y0, y1, y2, y3, y4, by simpa using e0, by simpa using e1, by simpa using e2, by simpa using e3, by simpa using e4, g0, g1, g2, g3, g4⟩
end

end Go.Proofs.Ytffbkcjkmhjfnaa

namespace Go.Proofs.Ytffbkcjkmhjfnaa
open Go.RowKit
set_option linter.unusedVariables false

structure Ch (S : Nat → Prop) (w w' : World) : Prop where
  os : w'.os = w.os
  tape : w'.tape = w.tape
  output : w'.output = w.output
  size : w.heap.size ≤ w'.heap.size
  block : ∀ k, k < w.heap.size → ¬ S k → w'.heap[k]? = w.heap[k]?

section
variable {S S1 S2 : Nat → Prop} {w w0 w1 w2 : World}

theorem Ch.refl (S : Nat → Prop) (w : World) : Ch S w w := ⟨rfl, rfl, rfl, Nat.le_refl _, fun _ _ _ => rfl⟩
theorem Ch.trans (h : Ch S w w1) (k : Ch S1 w1 w2) (hs : ∀ b, S1 b → S b ∨ w.heap.size ≤ b) : Ch S w w2 :=
  ⟨k.os.trans h.os, k.tape.trans h.tape, k.output.trans h.output, Nat.le_trans h.size k.size, fun i hi hg =>
    (k.block i (Nat.lt_of_lt_of_le hi h.size) (fun e => by rcases hs i e with x | x; exact hg x; omega)).trans (h.block i hi hg)⟩
theorem Ch.of_below (k : Below w.heap.size w w1) : Ch S w w1 := ⟨k.os, k.tape, k.output, k.size, fun i hi _ => k.block i hi⟩
theorem Ch.call (h : Ch S w w1) (k : Below w1.heap.size w1 w2) : Ch S w w2 := h.trans (Ch.of_below (S := fun _ => False) k) (fun _ e => e.elim)
theorem Ch.alloc (h : Ch S w w1) (o : Obj) : Ch S w (w1.alloc o) := h.call (bnew0 w1 o)
theorem Ch.setCell (h : Ch S w w1) {p : Addr} (hp : S p.block ∨ w.heap.size ≤ p.block) (u : Value) : Ch S w (w1.setCell p u) :=
  ⟨h.os, h.tape, h.output, by simpa [World.setCell] using h.size, fun k hk hg => by
    rw [Below.heap_setCell _ _ _ _ (by rcases hp with e | e; exact fun x => hg (x ▸ e); omega)]
    exact h.block k hk hg⟩
theorem Ch.setRow (h : Ch S w w1) {p : Nat} (hp : S p ∨ w.heap.size ≤ p) (cs : Array Value) : Ch S w (w1.setRow p cs) :=
  ⟨h.os, h.tape, h.output, by simpa using h.size, fun k hk hg => by
    rw [setRow_other _ _ _ _ (by rcases hp with e | e; exact fun x => hg (x ▸ e); omega)]
    exact h.block k hk hg⟩
theorem Ch.drew (h : Ch S w w1) : Ch S w w1.drew := ⟨h.os, h.tape, h.output, h.size, h.block⟩
theorem Ch.mono (h : Ch S w w1) (hs : ∀ b, S b → S1 b) : Ch S1 w w1 := ⟨h.os, h.tape, h.output, h.size, fun k hk hg => h.block k hk (fun e => hg (hs k e))⟩
/-- All that it may change lies from block B on. -/
theorem Ch.below {B : Nat} (k : Ch S w w1) (h : Below B w0 w) (hB : B ≤ w0.heap.size) (hs : ∀ b, S b → B ≤ b) : Below B w0 w1 :=
  h.trans ⟨k.os, k.tape, k.output, k.size, fun i hi => k.block i (by have := h.size; omega) (fun e => by have := hs i e; omega)⟩

variable {α : Type} {f : α → Value} {enc : α → List Value} {q : Nat} {E : TypeId} {B n c : Nat} {a : Option Addr} {l : List α} {g : Nat} {o : Obj}
theorem Ch.bx (k : Ch S w w1) (h : w.heap[g]? = some o) (hn : ¬ S g) : w1.heap[g]? = some o := (k.block g (bx_lt h) hn).trans h
theorem RL.ch (h : RL f w a n c l) (k : Ch S w w1) (hn : ∀ p, a = some p → ¬ S p.block) : RL f w1 a n c l :=
  ⟨h.len, h.cap, fun h0 => by
    obtain ⟨b, off, ha, hlt, hc⟩ := h.cell h0
    refine ⟨b, off, ha, Nat.lt_of_lt_of_le hlt k.size, fun i x hx => ?_⟩
    rw [World.cell?_of_block (w := w) (k.block b hlt (hn _ ha))]; exact hc i x hx⟩
theorem RK.ch (h : RK enc q w a n c l) (k : Ch S w w1) (hn : ∀ p, a = some p → ¬ S p.block) : RK enc q w1 a n c l :=
  ⟨h.len, h.cap, fun h0 => by
    obtain ⟨b, off, ha, hlt, hc⟩ := h.cell h0
    refine ⟨b, off, ha, Nat.lt_of_lt_of_le hlt k.size, fun i x j v hx hv => ?_⟩
    rw [World.cell?_of_block (w := w) (k.block b hlt (hn _ ha))]; exact hc i x j v hx hv⟩
theorem OL.ch (h : OL f E B w a n c l) (k : Ch S w w1) (hn : ∀ p, a = some p → ¬ S p.block) : OL f E B w1 a n c l :=
  h.kept fun b hb => k.block b (h.ltB hb).1 (hn _ hb)
theorem OK.ch (h : OK enc q E B w a n c l) (k : Ch S w w1) (hn : ∀ p, a = some p → ¬ S p.block) : OK enc q E B w1 a n c l :=
  h.kept fun b hb => k.block b (h.ltB hb).1 (hn _ hb)
end
end Go.Proofs.Ytffbkcjkmhjfnaa

namespace Go.Proofs.Ytffbkcjkmhjfnaa
open Go.RowKit Go.Sort
set_option linter.unusedVariables false
set_option linter.unusedSimpArgs false

/-- The bits of a key (one more ahead, dominant), and the key. -/
def keL (id : Nat) (ext rem : Bool) : List Bool := conL id ext rem ++ (if ext then [] else List.replicate 19 false)
def keyF (id : Nat) (ext rem : Bool) : Nat := numL (keL id ext rem)

theorem bfL_numL : ∀ (l m : List Bool), l.length = m.length → bfL l m = decide (numL l < numL m) := by
  intro l
  induction l with
  | nil => intro m h; cases m with
    | nil => rfl
    | cons => simp at h
  | cons x l ih =>
    intro m h
    cases m with
    | nil => simp at h
    | cons y m =>
      have hl : l.length = m.length := by simpa using h
      have h1 := numL_lt l
      have h2 := numL_lt m
      rw [hl] at h1
      rw [numL_cons, numL_cons, hl]
      simp only [bfL]
      by_cases e : x = y
      · subst e
        rw [if_pos rfl, ih m hl, decide_eq_decide]; omega
      · rw [if_neg e]
        cases x <;> cases y <;> simp_all <;> omega

theorem conL_split (id : Nat) (rem : Bool) : conL id true rem = ([false] ++ ofL (id / 262144) 11 ++ [true, true]) ++ (ofL id 18 ++ [rem]) := by rw [conL_true]; simp
theorem ofL_len (n m : Nat) : (ofL n m).length = m := by
  induction m with
  | zero => rfl
  | succ m ih => simp [ofL, ih]

theorem keL_length (id : Nat) (ext rem : Bool) : (keL id ext rem).length = 33 := by
  unfold keL conL
  cases ext <;> simp [ofL_len]

theorem ends_ne (p q : List Bool) (x : Bool) (h : p.length = q.length) : p ++ [x, false] ≠ q ++ [true, true] := by
  intro e
  have := (List.append_inj e h).2
  simp at this

theorem keL_bf (id : Nat) (ext rem : Bool) (id2 : Nat) (ext2 rem2 : Bool) : bfL (conL id ext rem) (conL id2 ext2 rem2) = bfL (keL id ext rem) (keL id2 ext2 rem2) := by
  unfold keL
  cases ext <;> cases ext2 <;> simp only [if_true, if_false, List.append_nil, Bool.false_eq_true]
  · by_cases e : conL id false rem = conL id2 false rem2
    · rw [e, bfL_self, bfL_self]
    · rw [bfL_len _ _ _ (by simp [conL, ofL_len]) e]
  · rw [conL_split]
    have hne : conL id false rem ≠ [false] ++ ofL (id2 / 262144) 11 ++ [true, true] := ends_ne _ _ _ (by simp [ofL_len])
    have hl : (conL id false rem).length = ([false] ++ ofL (id2 / 262144) 11 ++ [true, true]).length := by simp [conL, ofL_len]
    have := bfL_len _ _ [] hl hne (ofL id2 18 ++ [rem2])
    rw [List.append_nil] at this
    rw [this, bfL_len _ _ _ hl hne]
  · rw [conL_split]
    have hne : [false] ++ ofL (id / 262144) 11 ++ [true, true] ≠ conL id2 false rem2 := fun e => ends_ne _ _ _ (by simp [ofL_len]) e.symm
    have hl : ([false] ++ ofL (id / 262144) 11 ++ [true, true]).length = (conL id2 false rem2).length := by simp [conL, ofL_len]
    have := bfL_len _ _ (ofL id 18 ++ [rem]) hl hne []
    rw [List.append_nil] at this
    rw [this, bfL_len _ _ _ hl hne]

/-- Of two frames that one goes on whose key is the lesser one. -/
theorem key_before (id : Nat) (ext rem : Bool) (id2 : Nat) (ext2 rem2 : Bool) : bfL (conL id ext rem) (conL id2 ext2 rem2) = decide (keyF id ext rem < keyF id2 ext2 rem2) := by
  rw [keL_bf, bfL_numL _ _ (by rw [keL_length, keL_length])]; rfl

theorem zeros_num (n : Nat) : numL (List.replicate n false) = 0 := by
  induction n with
  | zero => rfl
  | succ n ih => rw [List.replicate_succ, numL_cons, ih]; simp

/-- A key, reckoned. -/
theorem key_base (id : Nat) (rem : Bool) : keyF id false rem = (id % 2048 * 2 + rem.toNat) * 1048576 := by
  unfold keyF keL conL
  simp only [if_false, Bool.false_eq_true]
  rw [numL_append, zeros_num, List.length_replicate, numL_append, numL_append, numL_ofL]
  cases rem <;> simp [numL, ofL_len] <;> omega
theorem key_ext (id : Nat) (rem : Bool) : keyF id true rem = ((id / 262144 % 2048 * 4 + 3) * 262144 + id % 262144) * 2 + rem.toNat := by
  unfold keyF keL conL
  simp only [if_true, List.append_nil]
  rw [numL_append, numL_append, numL_append, numL_append, numL_ofL, numL_ofL, ofL_len, ofL_len]
  cases rem <;> simp [numL] <;> omega
theorem key_lt (id : Nat) (ext rem : Bool) : keyF id ext rem < 4294967296 := by
  cases ext
  · rw [key_base]; have := Nat.mod_lt id (show 0 < 2048 by omega); cases rem <;> simp <;> omega
  · rw [key_ext]; have := Nat.mod_lt id (show 0 < 262144 by omega); have := Nat.mod_lt (id / 262144) (show 0 < 2048 by omega); cases rem <;> simp <;> omega
end Go.Proofs.Ytffbkcjkmhjfnaa

namespace Go.Proofs.Ytffbkcjkmhjfnaa
open Go.RowKit Go.Sort
set_option linter.unusedVariables false

/-- A frame that waits: the frame, where its data lie, its number. -/
abbrev Wt := Ff × Nat
abbrev wtV (p : Wt) : Array Value := #[.int .u32 (p.1.1.id : Int), .bool p.1.1.ext, .bool p.1.1.rem, .int .u8 (p.1.1.dlc : Int), .slice p.1.2.1 p.1.1.data.length p.1.2.2, .int .i64 (p.2 : Int)]
abbrev wtZ : Array Value := #[.int .u32 0, .bool false, .bool false, .int .u8 0, .slice none 0 0, .int .i64 0]
theorem wt_ones (p : Wt) : (wtV p).all (·.oneCell') = true := by kernel_rfl
def enW (p : Wt) : List Value := (wtV p).toList
theorem enW_k : EnK enW 6 := ⟨fun _ => rfl, fun p v hv => (Array.all_eq_true_iff_forall_mem.1 (wt_ones p)) v (by simpa [enW] using hv)⟩
theorem elW : ElK Try.prog 47 65 6 (.agg wtZ) 40 := ⟨by kernel_rfl, by kernel_rfl, by kernel_rfl, by kernel_rfl, rfl, by omega⟩
theorem rowW : RowT Try.prog 65 6 := rowT_of (by kernel_rfl) (by kernel_rfl)
theorem rowMl : RowT Try.prog 49 6 := rowT_of (by kernel_rfl) (by kernel_rfl)
def w0W : Wt := ((⟨0, false, false, 0, []⟩, (none, 0)), 0)

def kyW (p : Wt) : Nat := keyF p.1.1.id p.1.1.ext p.1.1.rem

/-- A mail. -/
structure Ml where
  room : Nat
  puts : Nat
  ws : List Wt
  wire : Nat
  ab : Bool

abbrev mlV (g : Nat) (m : Ml) (a : Option Addr) (c : Nat) : Array Value := #[.pointer (some ⟨g, 0, none⟩), .int .i64 (m.room : Int), .int .i64 (m.puts : Int), .slice a m.ws.length c, .int .i64 (m.wire : Int), .bool m.ab]

/-- A frame that waits, as it lies: its data are read; its numbers are in their bounds. -/
structure WtR (w : World) (p : Wt) : Prop where
  dat : RL bv w p.1.2.1 p.1.1.data.length p.1.2.2 p.1.1.data
  id : p.1.1.id < 4294967296
  dl : p.1.1.dlc < 256
  len : p.1.1.data.length ≤ 1000000
  num : p.2 < 4611686018427387904

/-- A mail in its box g: the row of those that wait; all its blocks lie from B on, and are in S. -/
structure MlO (B : Nat) (w : World) (g : Nat) (m : Ml) (a : Option Addr) (c : Nat) (S : Nat → Prop) : Prop where
  box : w.heap[g]? = some (.cells (mlV g m a c) 49 (0, 0))
  row : OK enW 6 65 B w a m.ws.length c m.ws
  wt : ∀ p ∈ m.ws, WtR w p
  hB : B ≤ g
  sg : S g
  sr : ∀ q, a = some q → S q.block
  sd : ∀ p ∈ m.ws, ∀ q, p.1.2.1 = some q → S q.block
  sB : ∀ k, S k → B ≤ k
  ng : NB a g
  nd : ∀ p ∈ m.ws, NB p.1.2.1 g ∧ ∀ q, a = some q → NB p.1.2.1 q.block
  rm : m.room ≤ 1000
  le : m.ws.length ≤ m.room
  pu : m.puts < 4611686018427387904
  wi : m.wire < 4611686018427387904
  sL : ∀ k, S k → k < w.heap.size

/-- What is said of a mail at any time: the one on the wire waits; none is aborted but it. -/
structure MlI (m : Ml) : Prop where
  wr : m.wire = 0 ∨ ∃ p ∈ m.ws, p.2 = m.wire
  aw : m.ab = true → m.wire ≠ 0
  no : ∀ p ∈ m.ws, 1 ≤ p.2 ∧ p.2 ≤ m.puts
  up : m.ws.Pairwise (fun p q => p.2 < q.2)

section
variable {B : Nat} {w w1 : World} {g : Nat} {m : Ml} {a : Option Addr} {c : Nat} {S S1 : Nat → Prop}

theorem WtR.ch {p : Wt} (h : WtR w p) (k : Ch S w w1) (hn : ∀ q, p.1.2.1 = some q → ¬ S q.block) : WtR w1 p := ⟨h.dat.ch k hn, h.id, h.dl, h.len, h.num⟩
theorem WtR.below {p : Wt} (h : WtR w p) (k : Below w.heap.size w w1) : WtR w1 p := ⟨h.dat.below k, h.id, h.dl, h.len, h.num⟩
theorem MlO.lt (h : MlO B w g m a c S) : g < w.heap.size := bx_lt h.box
/-- What changes none of its blocks leaves a mail. -/
theorem MlO.ch (h : MlO B w g m a c S) (k : Ch S1 w w1) (hn : ∀ b, S b → ¬ S1 b) : MlO B w1 g m a c S :=
  ⟨k.bx h.box (hn _ h.sg), h.row.ch k (fun q hq => hn _ (h.sr q hq)), fun p hp => (h.wt p hp).ch k (fun q hq => hn _ (h.sd p hp q hq)), h.hB, h.sg, h.sr, h.sd, h.sB, h.ng, h.nd, h.rm, h.le, h.pu, h.wi, fun q hq => Nat.lt_of_lt_of_le (h.sL q hq) k.size⟩
theorem MlO.below (h : MlO B w g m a c S) (k : Below w.heap.size w w1) : MlO B w1 g m a c S := h.ch (S1 := fun _ => False) (Ch.of_below k) (fun _ _ e => e)
theorem MlO.alloc (h : MlO B w g m a c S) (o : Obj) : MlO B (w.alloc o) g m a c S := h.below (bnew0 w o)
/-- A larger set. -/
theorem MlO.more (h : MlO B w g m a c S) (hs : ∀ b, S b → S1 b) (hB : ∀ k, S1 k → B ≤ k) (hL : ∀ k, S1 k → k < w.heap.size) : MlO B w g m a c S1 := ⟨h.box, h.row, h.wt, h.hB, hs _ h.sg, fun q hq => hs _ (h.sr q hq), fun p hp q hq => hs _ (h.sd p hp q hq), hB, h.ng, h.nd, h.rm, h.le, h.pu, h.wi, hL⟩
end
/-- Where a number stands; -1: nowhere. -/
def fiW (n : Int) (ws : List Wt) : Int := match ws.findIdx? (fun p => decide ((p.2 : Int) = n)) with | some i => (i : Int) | none => -1
theorem fiW_at {n : Int} {ws : List Wt} {k : Nat} {p : Wt} (h : ws[k]? = some p) (hp : (p.2 : Int) = n) (hn : ∀ j q, j < k → ws[j]? = some q → (q.2 : Int) ≠ n) : fiW n ws = (k : Int) := by
  obtain ⟨hk, rfl⟩ := List.getElem?_eq_some_iff.1 h
  have : ws.findIdx? (fun p => decide ((p.2 : Int) = n)) = some k := by
    rw [List.findIdx?_eq_some_iff_getElem]
    exact ⟨hk, by simpa using hp, fun j hj => by simpa using hn j _ hj (by simp)⟩
  unfold fiW; rw [this]
theorem fiW_no {n : Int} {ws : List Wt} (hn : ∀ q ∈ ws, (q.2 : Int) ≠ n) : fiW n ws = -1 := by
  have : ws.findIdx? (fun p => decide ((p.2 : Int) = n)) = none := by
    rw [List.findIdx?_eq_none_iff]; intro q hq; simpa using hn q hq
  unfold fiW; rw [this]
theorem fiW_or (n : Int) (ws : List Wt) : (fiW n ws = -1 ∧ ∀ q ∈ ws, (q.2 : Int) ≠ n) ∨ ∃ (k : Nat) (p : Wt), ws[k]? = some p ∧ (p.2 : Int) = n ∧ fiW n ws = (k : Int) ∧ (∀ (j : Nat) (q : Wt), j < k → ws[j]? = some q → (q.2 : Int) ≠ n) := by
  cases h : ws.findIdx? (fun p => decide ((p.2 : Int) = n)) with
  | none =>
    left
    have := List.findIdx?_eq_none_iff.1 h
    exact ⟨by unfold fiW; rw [h], fun q hq => by simpa using this q hq⟩
  | some k =>
    right
    obtain ⟨hk, h1, h2⟩ := List.findIdx?_eq_some_iff_getElem.1 h
    refine ⟨k, ws[k], by simp, by simpa using h1, by unfold fiW; rw [h], fun j q hj hq => ?_⟩
    obtain ⟨hj', rfl⟩ := List.getElem?_eq_some_iff.1 hq
    simpa using h2 j hj

/-- Without a number. -/
def rmW (n : Nat) (ws : List Wt) : List Wt := ws.eraseP (fun p => decide (p.2 = n))
theorem rmW_at {n k : Nat} {ws : List Wt} {p : Wt} (h : ws[k]? = some p) (hp : p.2 = n) (hn : ∀ j q, j < k → ws[j]? = some q → q.2 ≠ n) : rmW n ws = ws.take k ++ ws.drop (k + 1) := by
  induction ws generalizing k with
  | nil => simp at h
  | cons x l ih =>
    cases k with
    | zero => simp at h; subst h; unfold rmW; simp [hp]
    | succ k =>
      have hx : x.2 ≠ n := hn 0 x (by omega) (by simp)
      have := ih (k := k) (by simpa using h) (fun j q hj hq => hn (j + 1) q (by omega) (by simpa using hq))
      unfold rmW at this ⊢
      rw [List.eraseP_cons_of_neg (by simpa using hx), this]; simp

/-- The best one of those behind, or one ahead. -/
def miW : List Wt → Wt → Wt
  | x :: l, p => if kyW x < kyW p then miW l x else miW l p
  | [], p => p
theorem miW_mem : ∀ (l : List Wt) (p : Wt), miW l p = p ∨ miW l p ∈ l := by
  intro l
  induction l with
  | nil => intro p; exact .inl rfl
  | cons x l ih =>
    intro p
    unfold miW
    split
    · rcases ih x with h | h
      · right; rw [h]; simp
      · right; simp [h]
    · rcases ih p with h | h
      · exact .inl h
      · right; simp [h]
/-- The best one, or the one on the wire. -/
def beM (m : Ml) : Option Wt := match m.ws with | [] => none | p :: l => if m.wire = 0 then some (miW l p) else m.ws.find? (fun q => decide (q.2 = m.wire))
end Go.Proofs.Ytffbkcjkmhjfnaa
