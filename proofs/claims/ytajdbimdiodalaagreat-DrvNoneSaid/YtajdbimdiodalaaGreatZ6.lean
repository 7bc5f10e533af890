/-
  Texts of this place, put together: M14c, B10d, B10g, B10j, B10n, B11c. What stands here is used by the statement; conditions: none of their own.
-/
import Derived.Test.YtajdbimdiodalaaGreatZ5
import Derived.BigQuiet
import Derived.Deep.QuietTactic
import Derived.Lib.QuietBelow
import Derived.LaidEqlPtr
import Derived.Deep.RegionLaw
import Derived.Lib.SliceRun
import Derived.Test.YtajdbimdiodalaaGreatRows
import Derived.Laws.BitsAllLaws
import Derived.Deep.RegionHeld3
namespace Go.Proofs.YtajdbimdiodalaaGreat
open Go.RowKit Go.Sort
set_option linter.unusedVariables false

/-- A frame that waits, and its number. -/
abbrev Qw := Fr × Nat
/-- A mail without its memory. -/
structure Dq where
  ws : List Qw
  wire : Nat
  ab : Bool
  puts : Nat
  room : Nat

def kyQ (p : Qw) : Nat := keyF p.1.id p.1.ext p.1.rem
def miQ : List Qw → Qw → Qw
  | x :: l, p => if kyQ x < kyQ p then miQ l x else miQ l p
  | [], p => p
def beQ (q : Dq) : Option Qw := match q.ws with | [] => none | p :: l => if q.wire = 0 then some (miQ l p) else q.ws.find? (fun x => decide (x.2 = q.wire))
def rmQ (n : Nat) (l : List Qw) : List Qw := l.eraseP (fun p => decide (p.2 = n))
/-- What is on the wire is lost. -/
def loQ (q : Dq) : Dq := if q.ab then { q with ws := rmQ q.wire q.ws, wire := 0, ab := false } else { q with wire := 0, ab := false }
/-- What is on the wire was sent. -/
def seQ (q : Dq) : Dq := if q.wire = 0 then q else { q with ws := rmQ q.wire q.ws, wire := 0, ab := false }

/-- A driver. -/
structure Dv where
  pass : Fr → Bool
  c : Ct
  q : Dq
  rx : List (Fr × Int)
  keep : Nat
  ov : Bool
  now : Int

def newD (pass : Fr → Bool) (mails keep : Nat) : Dv := ⟨pass, c0, ⟨[], 0, false, 0, mails⟩, [], keep, false, 0⟩

/-- A driver's controller gives back what it does not send. -/
def baD (d : Dv) : Dv := if d.c.has && !d.c.sends then { d with c := { d.c with has := false, give := zeroFr }, q := loQ d.q } else d
/-- The best one goes to the controller, if that has none. -/
def giD (d : Dv) : Dv := if d.c.has then d else match beQ d.q with
  | none => d
  | some p => { d with c := { d.c with has := true, give := p.1 }, q := { d.q with wire := p.2 } }
/-- It is fed. -/
def feD (d : Dv) : Dv := giD (baD d)

/-- A right frame is sent. -/
def snD (d : Dv) (F : Fr) : Dv := if d.q.room ≤ d.q.ws.length then d else feD { d with q := { d.q with ws := d.q.ws ++ [(F, d.q.puts + 1)], puts := d.q.puts + 1 } }
def waD (d : Dv) (n : Nat) : Bool := d.q.ws.any (fun p => decide (p.2 = n))
/-- A number that waits is given up. -/
def abD (d : Dv) (n : Nat) : Dv := feD (if d.q.wire = n then { d with q := { d.q with ab := true } } else { d with q := { d.q with ws := rmQ n d.q.ws } })

/-- What is told: its kind, a number, a frame. -/
abbrev No := Nat × Nat × Fr
def noN : No := (0, 0, zeroFr)
/-- What happened, told; and the mail and the fifo behind it. -/
def hpD (d : Dv) (h : Hp) : Dv × No :=
  if h.1 = 1 then ({ d with q := seQ d.q }, (1, d.q.wire, h.2))
  else if h.1 = 2 then (if d.pass h.2 then (if d.rx.length < d.keep then ({ d with rx := d.rx ++ [(h.2, d.now)] }, (2, 0, h.2)) else ({ d with ov := true }, (3, 0, h.2))) else (d, noN))
  else if h.1 = 10 then (d, (4, 0, zeroFr))
  else if h.1 = 11 then (d, (5, 0, zeroFr))
  else (d, noN)
/-- A step. -/
def stD (d : Dv) (x : Bool) : Dv × No :=
  let r := hpD { d with c := (stC d.c x).1 } (stC d.c x).2
  (feD { r.1 with now := d.now + 1 }, r.2)

/-- What drivers drive at once, and a step of all of them. -/
def buD (l : List Dv) : Bool := l.all (fun d => dvC d.c)
def alD (l : List Dv) : List (Dv × No) := l.map (fun d => stD d (buD l))
/-- The last one that is told that something was sent. -/
def tlD (l : List (Dv × No)) : No := l.foldl (fun z r => if r.2.1 = 1 then r.2 else z) noN
/-- So many steps, or till something was sent. -/
def ruD : Nat → List Dv → List Dv × No × Bool
  | 0, l => (l, noN, false)
  | n + 1, l =>
    let r := alD l
    if (tlD r).1 = 1 then (r.map Prod.fst, tlD r, true) else ruD n (r.map Prod.fst)

/-- A base frame without data. -/
def baF (id : Nat) : Fr := ⟨id, false, false, 0, []⟩
def twD : List Dv := [snD (snD (newD (fun _ => true) 4 4) (baF 5)) (baF 3), newD (fun _ => true) 4 4]
/-- The first example: 3 is sent, then 5, and the other one reads 3 first. -/
def exD1 : Bool :=
  let x := ruD 200 twD
  let y := ruD 200 x.1
  x.2.2 && decide (x.2.1.2.1 = 2) && decide (x.2.1.2.2.id = 3) && y.2.2 && decide (y.2.1.2.1 = 1) && (match y.1 with | [_, b] => (match b.rx with | r :: _ => decide (r.1.id = 3) | [] => false) | _ => false)
/-- The second one: 1 is given up while 2 is on the bus, 2 can't be. -/
def exD2 : Bool :=
  let x := ruD 20 twD
  match x.1 with
  | [a, b] => waD a 1 && waD (abD a 1) 2 && !waD (abD a 1) 1 && waD (abD (abD a 1) 2) 2 && (let z := ruD 200 [abD (abD a 1) 2, b]; z.2.2 && decide (z.2.1.2.1 = 2))
  | _ => false

set_option maxRecDepth 100000 in
theorem exD1_true : exD1 = true := by decide +kernel
set_option maxRecDepth 100000 in
theorem exD2_true : exD2 = true := by decide +kernel
end Go.Proofs.YtajdbimdiodalaaGreat

namespace Go.Proofs.YtajdbimdiodalaaGreat
open Go.RowKit Go.Sort
set_option linter.unusedVariables false
set_option linter.unusedSimpArgs false

/-- A driver, not fed yet. -/
structure DvJ (d : Dv) : Prop where
  on : OnC d.c
  hw : d.c.has = true → 1 ≤ d.q.wire ∧ (d.c.give, d.q.wire) ∈ d.q.ws
  h0 : d.c.has = false → d.q.wire = 0 ∧ d.q.ab = false
  no : ∀ p ∈ d.q.ws, 1 ≤ p.2 ∧ p.2 ≤ d.q.puts ∧ Good p.1
  up : d.q.ws.Pairwise (fun p q => p.2 < q.2)
  rm : d.q.ws.length ≤ d.q.room
  kp : d.rx.length ≤ d.keep
/-- A driver: it is fed. -/
structure DvI (d : Dv) : Prop extends DvJ d where
  fed : d.c.has = false → d.q.ws = []

/-- What a feeding leaves alone. -/
structure Kept (d d' : Dv) : Prop where
  pass : d'.pass = d.pass
  puts : d'.q.puts = d.q.puts
  room : d'.q.room = d.q.room
  rx : d'.rx = d.rx
  keep : d'.keep = d.keep
  ov : d'.ov = d.ov
  now : d'.now = d.now

theorem rmQ_sub (n : Nat) (l : List Qw) : (rmQ n l).Sublist l := List.eraseP_sublist ..
theorem rmQ_mem {n : Nat} {l : List Qw} {p : Qw} (h : p ∈ l) (hp : p.2 ≠ n) : p ∈ rmQ n l := (List.mem_eraseP_of_neg (by simpa using hp)).2 h
theorem miQ_mem : ∀ (l : List Qw) (p : Qw), miQ l p = p ∨ miQ l p ∈ l := by
  intro l
  induction l with
  | nil => intro p; exact .inl rfl
  | cons x l ih =>
    intro p
    unfold miQ
    split
    · rcases ih x with h | h
      · right; rw [h]; simp
      · right; simp [h]
    · rcases ih p with h | h
      · exact .inl h
      · right; simp [h]
theorem beQ_mem {q : Dq} {p : Qw} (h : beQ q = some p) : p ∈ q.ws := by
  unfold beQ at h
  split at h
  · cases h
  · rename_i x l hl
    split at h
    · have h := Option.some.inj h
      subst h
      rw [hl]
      rcases miQ_mem l x with h | h
      · rw [h]; simp
      · simp [h]
    · exact List.mem_of_find?_eq_some h
theorem beQ_none {q : Dq} (hw : q.wire = 0) (h : beQ q = none) : q.ws = [] := by
  unfold beQ at h
  split at h
  · assumption
  · rw [if_pos hw] at h; cases h

section
variable {d : Dv}
/-- What waits is less, or as it was. -/
theorem DvJ.less (h : DvJ d) {q : Dq} (hs : q.ws.Sublist d.q.ws) (hp : q.puts = d.q.puts) : (∀ p ∈ q.ws, 1 ≤ p.2 ∧ p.2 ≤ q.puts ∧ Good p.1) ∧ q.ws.Pairwise (fun p q => p.2 < q.2) :=
  ⟨fun p hm => by rw [hp]; exact h.no p (hs.mem hm), h.up.sublist hs⟩

theorem loQ_ws (q : Dq) : (loQ q).ws = if q.ab then rmQ q.wire q.ws else q.ws := by unfold loQ; split <;> rfl
theorem loQ_sub (q : Dq) : (loQ q).ws.Sublist q.ws := by
  rw [loQ_ws]; split
  · exact rmQ_sub ..
  · exact List.Sublist.refl _
theorem loQ_rest (q : Dq) : (loQ q).wire = 0 ∧ (loQ q).ab = false ∧ (loQ q).puts = q.puts ∧ (loQ q).room = q.room := by unfold loQ; split <;> exact ⟨rfl, rfl, rfl, rfl⟩

theorem baD_J (h : DvJ d) : DvJ (baD d) ∧ Kept d (baD d) ∧ (baD d).q.ws.Sublist d.q.ws := by
  unfold baD
  split
  · rename_i hb
    have hs : d.c.sends = false := by
      cases e : d.c.sends with
      | false => rfl
      | true => rw [e] at hb; simp at hb
    obtain ⟨l1, l2, l3, l4⟩ := loQ_rest d.q
    obtain ⟨n1, n2⟩ := h.less (loQ_sub d.q) l3
    exact ⟨⟨on_drop h.on hs, fun e => (by cases e), fun _ => ⟨l1, l2⟩, n1, n2, Nat.le_trans (loQ_sub d.q).length_le (by rw [l4]; exact h.rm), h.kp⟩, ⟨rfl, l3, l4, rfl, rfl, rfl, rfl⟩, loQ_sub _⟩
  · exact ⟨h, ⟨rfl, rfl, rfl, rfl, rfl, rfl, rfl⟩, List.Sublist.refl _⟩

theorem giD_I (h : DvJ d) : DvI (giD d) ∧ Kept d (giD d) ∧ (giD d).q.ws = d.q.ws := by
  unfold giD
  split
  · rename_i hh
    exact ⟨⟨h, fun e => by rw [hh] at e; cases e⟩, ⟨rfl, rfl, rfl, rfl, rfl, rfl, rfl⟩, rfl⟩
  · rename_i hh
    have hf : d.c.has = false := by simpa using hh
    obtain ⟨hw0, hab⟩ := h.h0 hf
    split
    · rename_i hb
      exact ⟨⟨h, fun _ => beQ_none hw0 hb⟩, ⟨rfl, rfl, rfl, rfl, rfl, rfl, rfl⟩, rfl⟩
    · rename_i p hb
      have hm := beQ_mem hb
      obtain ⟨p1, p2, p3⟩ := h.no p hm
      exact ⟨⟨⟨on_give h.on p3 hf, fun _ => ⟨p1, hm⟩, fun e => (by cases e), h.no, h.up, h.rm, h.kp⟩, fun e => (by cases e)⟩, ⟨rfl, rfl, rfl, rfl, rfl, rfl, rfl⟩, rfl⟩

theorem Kept.trans {d1 d2 d3 : Dv} (h : Kept d1 d2) (k : Kept d2 d3) : Kept d1 d3 :=
  ⟨k.pass.trans h.pass, k.puts.trans h.puts, k.room.trans h.room, k.rx.trans h.rx, k.keep.trans h.keep, k.ov.trans h.ov, k.now.trans h.now⟩

/-- A feeding. -/
theorem feD_I (h : DvJ d) : DvI (feD d) ∧ Kept d (feD d) ∧ (feD d).q.ws.Sublist d.q.ws := by
  obtain ⟨b1, b2, b3⟩ := baD_J h
  obtain ⟨g1, g2, g3⟩ := giD_I b1
  exact ⟨g1, b2.trans g2, by unfold feD; rw [g3]; exact b3⟩

theorem newD_I (pass : Fr → Bool) (mails keep : Nat) : DvI (newD pass mails keep) :=
  ⟨⟨OnC.start, fun e => (by cases e), fun _ => ⟨rfl, rfl⟩, fun p hp => (by cases hp), List.Pairwise.nil, Nat.zero_le _, Nat.zero_le _⟩, fun _ => rfl⟩

end
end Go.Proofs.YtajdbimdiodalaaGreat

namespace Go.Proofs.YtajdbimdiodalaaGreat
open Go.RowKit Go.Sort
set_option linter.unusedVariables false
set_option linter.unusedSimpArgs false

end Go.Proofs.YtajdbimdiodalaaGreat

namespace Go.Proofs.YtajdbimdiodalaaGreat
open Go.RowKit
set_option linter.unusedVariables false

theorem find1_any (w : World) (p : Wt) (n : Int) (b : Nat) (hb : b < w.heap.size) (hc : w.cell? ⟨b, 0, none⟩ = some (.int .i64 n)) :
    Calls Tryz.prog 114 #[.agg (wtV p), .pointer (some ⟨b, 0, none⟩)] w fun e w' => e = .returned (.bool (decide ((p.2 : Int) = n))) ∧ Below w.heap.size w w' := by
  have hne : b ≠ w.heap.size := by omega
  go_enter Tryz.func114, Tryz.ntmps114
  go_wp2
  all_goals (go_ret; exact ⟨ret_bool (by rw [Bool.eq_iff_iff]; simp), bnew0 w _⟩)

set_option maxHeartbeats 1000000 in
theorem mlIndex_any (w : World) (a : Option Addr) (n c : Nat) (ws : List Wt) (N : Int) (b : Nat) (h : RK enW 6 w a n c ws) (hn : n ≤ 100000) (hb : b < w.heap.size) (hc : w.cell? ⟨b, 0, none⟩ = some (.int .i64 N)) :
    Calls Tryz.prog 113 #[.slice a n c, .func (.func 114) #[] #[.pointer (some ⟨b, 0, none⟩)]] w fun e w' => e = .returned (.int .i64 (fiW N ws)) ∧ Below w.heap.size w w' := by
  have HL := hid h.len
  go_enter Tryz.func113, Tryz.ntmps113
  go_wp2
  go_loopg [8] n (fun gn vi wr => ∃ k : Nat, k ≤ n ∧ gn = n - k ∧ vi = .int .i64 (k : Int) ∧ Hid (∀ j q, j < k → ws[j]? = some q → (q.2 : Int) ≠ N) ∧ Below w.heap.size w wr)
  case atStart => exact ⟨0, by omega, by omega, rfl, fun j q hj => by omega, Below.refl _ _⟩
  case round =>
    obtain ⟨k, hk, rfl, rfl, HF, hbl⟩ := hrel
    by_cases hlt : k < n
    · obtain ⟨p, hp⟩ : ∃ p, ws[k]? = some p := ⟨ws[k]'(by rw [HL.out]; exact hlt), by simp⟩
      obtain ⟨gb, off, rfl, hgb, hr⟩ := (h.below hbl).range hp
      have HP := hid hp; clear hp
      have hcl := find1_any wr p N b (Nat.lt_of_lt_of_le hb hbl.size) ((hbl.cell (p := ⟨b, 0, none⟩) hb).trans hc)
      by_cases he : (p.2 : Int) = N
      · rw [decide_eq_true he] at hcl
        have HE := hid he; clear he
        go_wp2_with (first
          | (with_reducible refine wpList_loadM rowW rfl _ rfl _ _ rfl (wtV p) hr rfl ?_)
          | (go_at_call 114; (with_reducible refine hcl.mono ?_); rintro e w1 ⟨rfl, g1⟩))
        go_ret
        exact ⟨ret_int (fiW_at HP.out HE.out HF.out).symm, bstep hbl g1⟩
      · rw [decide_eq_false he] at hcl
        have HE := hid he; clear he
        go_wp2_with (first
          | (with_reducible refine wpList_loadM rowW rfl _ rfl _ _ rfl (wtV p) hr rfl ?_)
          | (go_at_call 114; (with_reducible refine hcl.mono ?_); rintro e w1 ⟨rfl, g1⟩))
        go_roundg (n - (k + 1))
        case measure => omega
        case rel => exact ⟨k + 1, by omega, rfl, by go_num, fun j q hj hq => by
          by_cases e : j = k
          · subst e; rw [HP.out] at hq; simp at hq; rw [← hq]; exact HE.out
          · exact HF.out j q (by omega) hq, bstep hbl g1⟩
    · obtain rfl : k = n := by omega
      go_wp2
      go_ret
      exact ⟨ret_int (fiW_no (fun q hq => by
        obtain ⟨j, hj, rfl⟩ := List.mem_iff_getElem.1 hq
        exact HF.out j _ (by rw [HL.out] at hj; exact hj) (by simp))).symm, hbl⟩
end Go.Proofs.YtajdbimdiodalaaGreat

namespace Go.Proofs.YtajdbimdiodalaaGreat
open Go.RowKit
set_option linter.unusedVariables false

theorem or_plus {a b k : Nat} (hb : b < 2 ^ k) (ha : a % 2 ^ k = 0) : a ||| b = a + b := by
  have h := Nat.two_pow_add_eq_or_of_lt hb (a / 2 ^ k)
  have e : 2 ^ k * (a / 2 ^ k) = a := by have := Nat.div_add_mod a (2 ^ k); omega
  rw [e] at h
  exact h.symm

theorem kb1 (id : Nat) : (id : Int) * 2097152 % 4294967296 = ((keyF id false false : Nat) : Int) := by rw [key_base]; simp; omega
theorem kb2 (id : Nat) : bits .or .u32 ((id : Int) * 2097152 % 4294967296) 1048576 = ((keyF id false true : Nat) : Int) := by
  have h1 : (id : Int) * 2097152 % 4294967296 = ((id % 2048 * 2097152 : Nat) : Int) := by omega
  have h2 := (u32_bits (id % 2048 * 2097152) 1048576 (by omega) (by omega)).2
  have h3 : (1048576 : Int) = ((1048576 : Nat) : Int) := rfl
  rw [h1, h3, h2, or_plus (k := 21) (by omega) (by omega), key_base]; simp; omega
theorem ke0 (id : Nat) (hi : id < 4294967296) : bits .or .u32 (bits .or .u32 ((id : Int) / 262144 * 2097152 % 4294967296) 1572864) (bits .and .u32 (id : Int) 262143 * 2 % 4294967296) = ((id / 262144 % 2048 * 2097152 + 1572864 + id % 262144 * 2 : Nat) : Int) := by
  have h1 : (id : Int) / 262144 * 2097152 % 4294967296 = ((id / 262144 % 2048 * 2097152 : Nat) : Int) := by omega
  have h2 := (u32_bits (id / 262144 % 2048 * 2097152) 1572864 (by omega) (by omega)).2
  have h3 : (1572864 : Int) = ((1572864 : Nat) : Int) := rfl
  have h4 := (u32_bits id 262143 hi (by omega)).1
  have h5 : (262143 : Int) = ((262143 : Nat) : Int) := rfl
  have h6 : id &&& 262143 = id % 262144 := Nat.and_two_pow_sub_one_eq_mod id 18
  have h7 : ((id % 262144 : Nat) : Int) * 2 % 4294967296 = ((id % 262144 * 2 : Nat) : Int) := by omega
  rw [h1, h3, h2, h5, h4, h6, h7, or_plus (k := 21) (a := id / 262144 % 2048 * 2097152) (by omega) (by omega)]
  have h8 := (u32_bits (id / 262144 % 2048 * 2097152 + 1572864) (id % 262144 * 2) (by omega) (by omega)).2
  rw [h8, or_plus (k := 19) (by omega) (by omega)]
theorem ke1 (id : Nat) (hi : id < 4294967296) : bits .or .u32 (bits .or .u32 ((id : Int) / 262144 * 2097152 % 4294967296) 1572864) (bits .and .u32 (id : Int) 262143 * 2 % 4294967296) = ((keyF id true false : Nat) : Int) := by
  rw [ke0 id hi, key_ext]; simp; omega
theorem ke2 (id : Nat) (hi : id < 4294967296) : bits .or .u32 (bits .or .u32 (bits .or .u32 ((id : Int) / 262144 * 2097152 % 4294967296) 1572864) (bits .and .u32 (id : Int) 262143 * 2 % 4294967296)) 1 = ((keyF id true true : Nat) : Int) := by
  rw [ke0 id hi]
  have h8 := (u32_bits (id / 262144 % 2048 * 2097152 + 1572864 + id % 262144 * 2) 1 (by omega) (by omega)).2
  have h3 : (1 : Int) = ((1 : Nat) : Int) := rfl
  rw [h3, h8, or_plus (k := 1) (by omega) (by omega), key_ext]; simp; omega

set_option maxHeartbeats 1000000 in
theorem key_any (w : World) (id : Nat) (ext rem : Bool) (dlc : Nat) (a : Option Addr) (n c : Nat) (hi : id < 4294967296) :
    Calls Tryz.prog 24 #[.agg #[.int .u32 (id : Int), .bool ext, .bool rem, .int .u8 (dlc : Int), .slice a n c]] w fun e w' => e = .returned (.int .u32 (keyF id ext rem : Int)) ∧ Below w.heap.size w w' := by
  cases ext <;> cases rem
  all_goals
    go_enter Tryz.func24, Tryz.ntmps24
    go_wp2
    go_ret
    exact ⟨ret_int (by first | exact kb1 id | exact kb2 id | exact ke1 id hi | exact ke2 id hi), bnew0 w _⟩

theorem isNaN_u32 (a : Int) (w : World) : Calls Tryz.prog 181 #[.int .u32 a] w fun e w' => e = .returned (.bool false) ∧ w = w' := by
  go_enter Tryz.func181, Tryz.ntmps181
  go_wp2
  go_ret
  exact ⟨ret_bool (by simp), rfl⟩

/-- Comparing two numbers. -/
def cmpV (a b : Nat) : Int := if a < b then -1 else if b < a then 1 else 0
theorem cmp_u32 (a b : Nat) (w : World) : Calls Tryz.prog 164 #[.int .u32 (a : Int), .int .u32 (b : Int)] w fun e w' => e = .returned (.int .i64 (cmpV a b)) ∧ w = w' := by
  unfold cmpV
  by_cases h1 : a < b
  · rw [if_pos h1]
    have d1 : (a : Int) < b := by omega
    have d2 : decide (a < b) = true := decide_eq_true h1
    clear h1
    go_enter Tryz.func164, Tryz.ntmps164
    go_wp2_with (go_at_call 181; refine (isNaN_u32 _ _).mono ?_; rintro e w' ⟨rfl, rfl⟩)
    go_ret
    exact ⟨rfl, rfl⟩
  · rw [if_neg h1]
    by_cases h2 : b < a
    · rw [if_pos h2]
      have d1 : ¬ (a : Int) < b := by omega
      have d2 : decide (a < b) = false := decide_eq_false h1
      have d3 : (b : Int) < a := by omega
      have d4 : decide (b < a) = true := decide_eq_true h2
      clear h1 h2
      go_enter Tryz.func164, Tryz.ntmps164
      go_wp2_with (go_at_call 181; refine (isNaN_u32 _ _).mono ?_; rintro e w' ⟨rfl, rfl⟩)
      go_ret
      exact ⟨rfl, rfl⟩
    · rw [if_neg h2]
      have d1 : ¬ (a : Int) < b := by omega
      have d2 : decide (a < b) = false := decide_eq_false h1
      have d3 : ¬ (b : Int) < a := by omega
      have d4 : decide (b < a) = false := decide_eq_false h2
      clear h1 h2
      go_enter Tryz.func164, Tryz.ntmps164
      go_wp2_with (go_at_call 181; refine (isNaN_u32 _ _).mono ?_; rintro e w' ⟨rfl, rfl⟩)
      go_ret
      exact ⟨rfl, rfl⟩
end Go.Proofs.YtajdbimdiodalaaGreat

namespace Go.Proofs.YtajdbimdiodalaaGreat
open Go.RowKit Go.Sort
set_option linter.unusedVariables false

/-- A box of six cells. -/
theorem bx6r {w : World} {g : Nat} {E : TypeId} {v0 v1 v2 v3 v4 v5 : Value} (h : w.heap[g]? = some (.cells #[v0, v1, v2, v3, v4, v5] E (0, 0))) :
    (∀ d os, (grow (redrawn w d) os).cell? ⟨g, 0, none⟩ = some v0) ∧ (∀ d os, (grow (redrawn w d) os).cell? ⟨g, 1, none⟩ = some v1) ∧ (∀ d os, (grow (redrawn w d) os).cell? ⟨g, 2, none⟩ = some v2) ∧
    (∀ d os, (grow (redrawn w d) os).cell? ⟨g, 3, none⟩ = some v3) ∧ (∀ d os, (grow (redrawn w d) os).cell? ⟨g, 4, none⟩ = some v4) ∧ (∀ d os, (grow (redrawn w d) os).cell? ⟨g, 5, none⟩ = some v5) := by
  obtain ⟨k0, k1, k2, k3, k4, k5⟩ := bx6 h
  exact ⟨fun d os => cell_regrown k0 d os, fun d os => cell_regrown k1 d os, fun d os => cell_regrown k2 d os, fun d os => cell_regrown k3 d os, fun d os => cell_regrown k4 d os, fun d os => cell_regrown k5 d os⟩

set_option maxRecDepth 100000 in
set_option maxHeartbeats 2000000 in
theorem compare_any (w : World) (p q : Wt) (hp : p.1.1.id < 4294967296) (hq : q.1.1.id < 4294967296) :
    Calls Tryz.prog 144 #[.agg (wtV p), .agg (wtV q)] w fun e w' => e = .returned (.int .i64 (cmpV (kyW p) (kyW q))) ∧ Below w.heap.size w w' := by
  obtain ⟨w0, hw0, hbx, hby, gg0⟩ := boxed2 w 164 (wtV p) (wtV q)
  obtain ⟨x0, x1, x2, x3, x4, x5⟩ := bx6r hbx
  obtain ⟨y0, y1, y2, y3, y4, y5⟩ := bx6r hby
  have kA : ∀ d os, Calls Tryz.prog 24 #[.agg #[.int .u32 (p.1.1.id : Int), .bool p.1.1.ext, .bool p.1.1.rem, .int .u8 (p.1.1.dlc : Int), .slice p.1.2.1 p.1.1.data.length p.1.2.2]] (grow (redrawn w0 d) os) fun e w'' => e = .returned (.int .u32 (kyW p : Int)) ∧ ∃ r : Regrown, w'' = grow (redrawn w0 r.d) r.os := fun d os =>
    Calls.regrown_of (key_any _ _ _ _ _ _ _ _ hp)
  have kB : ∀ d os, Calls Tryz.prog 24 #[.agg #[.int .u32 (q.1.1.id : Int), .bool q.1.1.ext, .bool q.1.1.rem, .int .u8 (q.1.1.dlc : Int), .slice q.1.2.1 q.1.1.data.length q.1.2.2]] (grow (redrawn w0 d) os) fun e w'' => e = .returned (.int .u32 (kyW q : Int)) ∧ ∃ r : Regrown, w'' = grow (redrawn w0 r.d) r.os := fun d os =>
    Calls.regrown_of (key_any _ _ _ _ _ _ _ _ hq)
  have kC : ∀ d os, Calls Tryz.prog 164 #[.int .u32 (kyW p : Int), .int .u32 (kyW q : Int)] (grow (redrawn w0 d) os) fun e w'' => e = .returned (.int .i64 (cmpV (kyW p) (kyW q))) ∧ ∃ r : Regrown, w'' = grow (redrawn w0 r.d) r.os := fun d os =>
    Calls.regrown_of ((cmp_u32 _ _ _).mono fun e w' he => ⟨he.1, he.2 ▸ Below.refl _ _⟩)
  generalize cmpV (kyW p) (kyW q) = cv at *
  generalize kyW p = kp at *
  generalize kyW q = kq at *
  go_enter Tryz.func144, Tryz.ntmps144
  go_wp2
  rw [hw0.out]
  refine wp_region_quiet_below (by kernel_rfl) (by kernel_rfl) ?_
  repeat (go_big_quiet_step (first | (go_at_call 24; with_reducible exact kA _ _) | (go_at_call 24; with_reducible exact kB _ _) | (go_at_call 164; with_reducible exact kC _ _)))
  refine wpQuiet_nil ?_
  intro w9 hw9
  have g9 : Below w0.heap.size w0 w9 := by obtain ⟨p9, rfl⟩ := hw9; exact below_regrown _ _ _
  clear hw9 kA kB kC x0 x1 x2 x3 x4 x5 y0 y1 y2 y3 y4 y5
  go_wp2
  go_ret
  exact ⟨rfl, bstep gg0 g9⟩
end Go.Proofs.YtajdbimdiodalaaGreat

namespace Go.Proofs.YtajdbimdiodalaaGreat
open Go.RowKit Go.Sort
set_option linter.unusedVariables false

theorem rg6r {w : World} {b o : Nat} {p : Wt} (h : w.rangeAt b o (enW p)) :
    (∀ d os, (grow (redrawn w d) os).cell? ⟨b, o, none⟩ = some (.int .u32 (p.1.1.id : Int))) ∧ (∀ d os, (grow (redrawn w d) os).cell? ⟨b, o + 1, none⟩ = some (.bool p.1.1.ext)) ∧ (∀ d os, (grow (redrawn w d) os).cell? ⟨b, o + 2, none⟩ = some (.bool p.1.1.rem)) ∧
    (∀ d os, (grow (redrawn w d) os).cell? ⟨b, o + 3, none⟩ = some (.int .u8 (p.1.1.dlc : Int))) ∧ (∀ d os, (grow (redrawn w d) os).cell? ⟨b, o + 4, none⟩ = some (.slice p.1.2.1 p.1.1.data.length p.1.2.2)) ∧ (∀ d os, (grow (redrawn w d) os).cell? ⟨b, o + 5, none⟩ = some (.int .i64 (p.2 : Int))) := by
  have k0 := h 0 _ rfl
  rw [Nat.add_zero] at k0
  exact ⟨fun d os => cell_regrown k0 d os, fun d os => cell_regrown (h 1 _ rfl) d os, fun d os => cell_regrown (h 2 _ rfl) d os, fun d os => cell_regrown (h 3 _ rfl) d os, fun d os => cell_regrown (h 4 _ rfl) d os, fun d os => cell_regrown (h 5 _ rfl) d os⟩

theorem cmpV_lt {a b : Nat} (h : a < b) : cmpV a b < 0 := by unfold cmpV; rw [if_pos h]; omega
theorem cmpV_ge {a b : Nat} (h : ¬ a < b) : ¬ cmpV a b < 0 := by unfold cmpV; rw [if_neg h]; split <;> omega

set_option maxRecDepth 100000 in
set_option maxHeartbeats 4000000 in
theorem minFunc_any (w : World) (a : Option Addr) (n c : Nat) (hd : Wt) (tl : List Wt) (h : RK enW 6 w a n c (hd :: tl)) (hn : n ≤ 100000) (hid' : ∀ p ∈ hd :: tl, p.1.1.id < 4294967296) :
    Calls Tryz.prog 143 #[.slice a n c, .func (.func 144) #[] #[]] w fun e w' => e = .returned (.agg (wtV (miW tl hd))) ∧ Below w.heap.size w w' := by
  have HL := hid h.len
  have HI := hid hid'; clear hid'
  have hn1 : 1 ≤ n := by rw [← HL.out]; simp
  obtain ⟨R, hR⟩ : ∃ R, R = miW tl hd := ⟨_, rfl⟩
  rw [← hR]
  have HR := hid hR; clear hR
  have z0 : ((w.alloc (.cells wtZ 164)).alloc (.cells wtZ 164)).heap.size = w.heap.size + 2 := by simp
  have b1 : ((w.alloc (.cells wtZ 164)).alloc (.cells wtZ 164)).heap[w.heap.size]? = some (.cells wtZ 164 (0, 0)) := bx_alloc _ (heap_alloc_new w _)
  have b2 : ((w.alloc (.cells wtZ 164)).alloc (.cells wtZ 164)).heap[w.heap.size + 1]? = some (.cells wtZ 164 (0, 0)) := by
    have := heap_alloc_new (w.alloc (.cells wtZ 164)) (.cells wtZ 164); rwa [heap_size_alloc] at this
  obtain ⟨gb0, off0, ha0, hgb0, hr0⟩ := (h.below (bnew0 w (.cells wtZ 164))).range (i := 0) (x := hd) (by simp)
  rw [Nat.zero_mul, Nat.add_zero] at hr0
  subst ha0
  go_enter Tryz.func143, Tryz.ntmps143
  go_wp2_with (first
    | (with_reducible refine wpList_loadM rowW rfl _ rfl _ _ rfl (wtV hd) hr0 rfl ?_)
    | (with_reducible refine wpList_storeR rowW rfl _ _ rfl _ _ rfl rfl b2 rfl rfl (wt_ones _) ?_))
  have b3 := setRow_heap _ _ _ (wtV hd) _ _ b2
  have b4 := (setRow_other _ (w.heap.size + 1) w.heap.size (wtV hd) (by omega)).trans b1
  have gg : Below w.heap.size w (((w.alloc (.cells wtZ 164)).alloc (.cells wtZ 164)).setRow (w.heap.size + 1) (wtV hd)) := below_setRow (bnew (bnew0 w _) _) (by omega) _
  clear hr0 hgb0 b1 b2 z0
  go_loopg [6] (n - 1) (fun gn vi wr => ∃ (k : Nat) (p : Wt), 1 ≤ k ∧ k ≤ n ∧ gn = n - k ∧ vi = .int .i64 (k : Int) ∧ Hid (miW ((hd :: tl).drop k) p = R) ∧ p.1.1.id < 4294967296 ∧ wr.heap[w.heap.size + 1]? = some (.cells (wtV p) 164 (0, 0)) ∧ wr.heap[w.heap.size]? = some (.cells wtZ 164 (0, 0)) ∧ Below w.heap.size w wr)
  case atStart => exact ⟨1, hd, by omega, by omega, by omega, rfl, HR.out.symm, HI.out hd (by simp), b3, b4, gg⟩
  case round =>
    obtain ⟨k, p, hk1, hk, rfl, rfl, HM, hpi, c1, c2, hb⟩ := hrel
    clear b3 b4 gg
    by_cases hlt : k < n
    · obtain ⟨x, hx⟩ : ∃ x, (hd :: tl)[k]? = some x := ⟨(hd :: tl)[k]'(by rw [HL.out]; exact hlt), by simp⟩
      obtain ⟨gb, off, ha, hgb, hr⟩ := (h.below hb).range hx
      simp only [Option.some.injEq, Addr.mk.injEq, and_true] at ha
      obtain ⟨rfl, rfl⟩ := ha
      have hxi : x.1.1.id < 4294967296 := HI.out x (List.mem_of_getElem? hx)
      have hdr : (hd :: tl).drop k = x :: (hd :: tl).drop (k + 1) := by
        have := List.getElem?_eq_some_iff.1 hx
        rw [← this.2]; exact List.drop_eq_getElem_cons this.1
      have HX := hid hx; clear hx
      obtain ⟨x0, x1, x2, x3, x4, x5⟩ := rg6r hr
      obtain ⟨y0, y1, y2, y3, y4, y5⟩ := bx6r c1
      have kC : ∀ d os, Calls Tryz.prog 144 #[.agg (wtV x), .agg (wtV p)] (grow (redrawn wr d) os) fun e w'' => e = .returned (.int .i64 (cmpV (kyW x) (kyW p))) ∧ ∃ r : Regrown, w'' = grow (redrawn wr r.d) r.os := fun d os =>
        Calls.regrown_of (compare_any _ x p hxi hpi)
      by_cases hc : kyW x < kyW p
      · have hcv := cmpV_lt hc
        have HM2 : Hid (miW ((hd :: tl).drop (k + 1)) x = R) := by
          have := HM.out; rw [hdr] at this; unfold miW at this; rw [if_pos hc] at this; exact this
        clear hc hdr HM
        generalize cmpV (kyW x) (kyW p) = cv at *
        go_wp2
        refine wp_region_quiet_below (by kernel_rfl) (by kernel_rfl) ?_
        repeat (go_big_quiet_step (first | (go_at_call 144; with_reducible exact kC _ _)))
        refine wpQuiet_nil ?_
        intro w9 hw9
        have g9 : Below wr.heap.size wr w9 := by obtain ⟨p9, rfl⟩ := hw9; exact below_regrown _ _ _
        clear hw9 kC x0 x1 x2 x3 x4 x5 y0 y1 y2 y3 y4 y5
        have hr9 : w9.rangeAt gb0 (off0 + k * 6) (enW x) := fun j v hj => (g9.cell (p := ⟨gb0, _, none⟩) hgb).trans (hr j v hj)
        have d1 := bx_below c1 g9
        have d2 := bx_below c2 g9
        go_wp2_with (first
          | (with_reducible refine wpList_loadM rowW rfl _ rfl _ _ rfl (wtV x) hr9 rfl ?_)
          | (with_reducible refine wpList_storeR rowW rfl _ _ rfl _ _ rfl rfl d1 rfl rfl (wt_ones _) ?_))
        go_roundg (n - (k + 1))
        case measure => omega
        case rel => exact ⟨k + 1, x, by omega, by omega, rfl, by go_num, HM2, hxi, setRow_heap _ _ _ _ _ _ d1, (setRow_other _ _ _ _ (by omega)).trans d2, below_setRow (bstep hb g9) (by omega) _⟩
      · have hcv := cmpV_ge hc
        have HM2 : Hid (miW ((hd :: tl).drop (k + 1)) p = R) := by
          have := HM.out; rw [hdr] at this; unfold miW at this; rw [if_neg hc] at this; exact this
        clear hc hdr HM
        have hcv' : decide (cmpV (kyW x) (kyW p) < 0) = false := decide_eq_false hcv
        clear hcv
        generalize cmpV (kyW x) (kyW p) = cv at *
        go_wp2
        refine wp_region_quiet_below (by kernel_rfl) (by kernel_rfl) ?_
        repeat (go_big_quiet_step (first | (go_at_call 144; with_reducible exact kC _ _)))
        refine wpQuiet_nil ?_
        intro w9 hw9
        have g9 : Below wr.heap.size wr w9 := by obtain ⟨p9, rfl⟩ := hw9; exact below_regrown _ _ _
        clear hw9 kC x0 x1 x2 x3 x4 x5 y0 y1 y2 y3 y4 y5
        have d1 := bx_below c1 g9
        have d2 := bx_below c2 g9
        go_wp2
        go_roundg (n - (k + 1))
        case measure => omega
        case rel => exact ⟨k + 1, p, by omega, by omega, rfl, by go_num, HM2, hpi, d1, d2, bstep hb g9⟩
    · obtain rfl : k = n := by omega
      have hRp : R = p := by
        have := HM.out; rw [List.drop_eq_nil_of_le (by rw [HL.out]; exact Nat.le_refl _)] at this; exact this.symm
      subst hRp
      clear HM
      go_wp2_with (first
        | (with_reducible refine wpList_loadR rowW rfl _ rfl _ rfl c1 rfl ?_)
        | (with_reducible refine wpList_storeR rowW rfl _ _ rfl _ _ rfl rfl c2 rfl rfl (wt_ones _) ?_))
      exact bodyPost_ret (v := .agg (wtV R)) (results_row rowW rfl _ _ _ rfl (setRow_heap _ _ _ _ _ _ c2) rfl) rfl ⟨rfl, below_setRow hb (Nat.le_refl _) _⟩

end Go.Proofs.YtajdbimdiodalaaGreat

namespace Go.Proofs.YtajdbimdiodalaaGreat
open Go.RowKit Go.Sort
set_option linter.unusedVariables false

theorem mfind_any {B : Nat} {w : World} {g : Nat} {m : Ml} {a : Option Addr} {c : Nat} {S : Nat → Prop} (h : MlO B w g m a c S) (N : Int) :
    Calls Tryz.prog 78 #[.pointer (some ⟨g, 0, none⟩), .int .i64 N] w fun e w' => e = .returned (.int .i64 (fiW N m.ws)) ∧ Below w.heap.size w w' := by
  have h0 := h.alloc (.cells #[.int .i64 N] 3)
  have q3 := (bx6 h0.box).2.2.2.1
  have hx : (w.alloc (.cells #[.int .i64 N] 3)).cell? ⟨w.heap.size, 0, none⟩ = some (.int .i64 N) := by rw [cell_of_row _ _ 0 _ _ _ (heap_alloc_new w _)]; rfl
  have hn : m.ws.length ≤ 100000 := by have := h.rm; have := h.le; omega
  have hrow := h0.row.rk enW_k
  clear h0
  go_enter Tryz.func78, Tryz.ntmps78
  go_wp2_with (go_at_call 113; (with_reducible refine (mlIndex_any _ _ _ _ _ _ _ hrow hn (by simp) hx).mono ?_); rintro e w1 ⟨rfl, g1⟩)
  go_ret
  exact ⟨rfl, (bnew0 w _).trans (g1.mono (by simp))⟩

theorem eqMl (w : World) (g : Nat) : (binOp .eql 93 (.pointer (some ⟨g, 0, none⟩)) (.pointer (some ⟨g, 0, none⟩))).run Tryz.prog w = .ok (.bool true) w := by
  obtain ⟨j, hj⟩ := Option.isSome_iff_exists.1 (show (Tryz.prog.info? 138).isSome = true by kernel_rfl)
  exact run_eql_ptr_same w _ (by kernel_rfl) hj

set_option maxRecDepth 100000 in
theorem mlMade_any {B : Nat} {w : World} {g : Nat} {m : Ml} {a : Option Addr} {c : Nat} {S : Nat → Prop} (h : MlO B w g m a c S) :
    Calls Tryz.prog 76 #[.pointer (some ⟨g, 0, none⟩)] w fun e w' => e = .returned (.bool true) ∧ w = w' := by
  have q0 := (bx6 h.box).1
  have qe := fun w => eqMl w g
  go_enter Tryz.func76, Tryz.ntmps76
  go_wp2
  go_ret
  exact ⟨rfl, rfl⟩

theorem find_fi {ws : List Wt} {W : Nat} {p : Wt} (hpe : ws.find? (fun q => decide (q.2 = W)) = some p) : ∃ k : Nat, ws[k]? = some p ∧ p.2 = W ∧ fiW (W : Int) ws = (k : Int) := by
  rcases fiW_or (W : Int) ws with ⟨_, h2⟩ | ⟨k, q, h1, h2, h3, h4⟩
  · have := List.find?_some hpe
    have h5 := h2 p (List.mem_of_find?_eq_some hpe)
    simp at this; omega
  · have e : p = q := by
      obtain ⟨h6, l1, l2, h7, h8⟩ := List.find?_eq_some_iff_append.1 hpe
      have hk : k = l1.length := by
        rcases Nat.lt_trichotomy k l1.length with hlt | he | hgt
        · rw [h7, List.getElem?_append_left hlt] at h1
          have := h8 q (List.mem_of_getElem? h1)
          simp at this; omega
        · exact he
        · have := h4 l1.length p hgt (by rw [h7]; simp)
          simp at h6; omega
      rw [hk, h7] at h1
      simpa using h1
    subst e
    exact ⟨k, h1, by omega, h3⟩

/-- A box of six cells, all stored. -/
theorem set6_same {w1 : World} {g : Nat} {T : TypeId} {u0 u1 u2 u3 u4 u5 : Value} (h : w1.heap[g]? = some (.cells #[u0, u1, u2, u3, u4, u5] T (0, 0))) (v0 v1 v2 v3 v4 v5 : Value) :
    ((((((w1.setCell ⟨g, 0, none⟩ v0).setCell ⟨g, 1, none⟩ v1).setCell ⟨g, 2, none⟩ v2).setCell ⟨g, 3, none⟩ v3).setCell ⟨g, 4, none⟩ v4).setCell ⟨g, 5, none⟩ v5).heap[g]? = some (.cells #[v0, v1, v2, v3, v4, v5] T (0, 0)) :=
  heap_setCell_same _ g 5 _ _ _ (heap_setCell_same _ g 4 _ _ _ (heap_setCell_same _ g 3 _ _ _ (heap_setCell_same _ g 2 _ _ _ (heap_setCell_same _ g 1 _ _ _ (heap_setCell_same _ g 0 _ _ _ h)))))
theorem set6_below {B : Nat} {w w1 : World} {g : Nat} (h : Below B w w1) (hg : B ≤ g) (v0 v1 v2 v3 v4 v5 : Value) :
    Below B w ((((((w1.setCell ⟨g, 0, none⟩ v0).setCell ⟨g, 1, none⟩ v1).setCell ⟨g, 2, none⟩ v2).setCell ⟨g, 3, none⟩ v3).setCell ⟨g, 4, none⟩ v4).setCell ⟨g, 5, none⟩ v5) :=
  (((((h.setCell hg _).setCell hg _).setCell hg _).setCell hg _).setCell hg _).setCell hg _

/-- What a region that looks for one of those that wait reads. -/
theorem heldM {B : Nat} {w w' : World} {g : Nat} {m : Ml} {a : Option Addr} {c : Nat} {S : Nat → Prop} {b o : Nat} {p : Wt} (h : MlO B w g m a c S) (hb : b < w.heap.size) (hr : w.rangeAt b o (enW p)) (k : Below w.heap.size w w') :
    w'.cell? ⟨g, 3, none⟩ = some (.slice a m.ws.length c) ∧ w'.cell? ⟨g, 4, none⟩ = some (.int .i64 (m.wire : Int)) ∧
    w'.cell? ⟨b, o, none⟩ = some (.int .u32 (p.1.1.id : Int)) ∧ w'.cell? ⟨b, o + 1, none⟩ = some (.bool p.1.1.ext) ∧ w'.cell? ⟨b, o + 2, none⟩ = some (.bool p.1.1.rem) ∧ w'.cell? ⟨b, o + 3, none⟩ = some (.int .u8 (p.1.1.dlc : Int)) ∧ w'.cell? ⟨b, o + 4, none⟩ = some (.slice p.1.2.1 p.1.1.data.length p.1.2.2) ∧ w'.cell? ⟨b, o + 5, none⟩ = some (.int .i64 (p.2 : Int)) ∧ Below w.heap.size w w' := by
  have hr' : w'.rangeAt b o (enW p) := fun j v hj => (k.cell (p := ⟨b, _, none⟩) hb).trans (hr j v hj)
  have k0 := hr' 0 _ rfl
  rw [Nat.add_zero] at k0
  obtain ⟨_, _, _, q3, q4, _⟩ := bx6 (h.below k).box
  exact ⟨q3, q4, k0, hr' 1 _ rfl, hr' 2 _ rfl, hr' 3 _ rfl, hr' 4 _ rfl, hr' 5 _ rfl, k⟩

set_option maxRecDepth 100000 in
set_option maxHeartbeats 4000000 in
theorem first_any {B : Nat} {w : World} {g : Nat} {m : Ml} {a : Option Addr} {c : Nat} {S : Nat → Prop} (h : MlO B w g m a c S) (p : Wt) (hp : beM m = some p) :
    Calls Tryz.prog 116 #[.pointer (some ⟨g, 0, none⟩)] w fun e w' => e = .returned (.agg (wtV p)) ∧ Below w.heap.size w w' := by
  obtain ⟨w0, hw0, h0, hb, gg⟩ : ∃ w0, Hid (w.alloc (.cells wtZ 164) = w0) ∧ MlO B w0 g m a c S ∧ w0.heap[w.heap.size]? = some (.cells wtZ 164 (0, 0)) ∧ Below w.heap.size w w0 := ⟨_, rfl, h.alloc _, heap_alloc_new w _, bnew0 w _⟩
  obtain ⟨q0, q1, q2, q3, q4, q5⟩ := bx6 h0.box
  have hn : m.ws.length ≤ 100000 := by have := h.rm; have := h.le; omega
  cases hw : m.ws with
  | nil => unfold beM at hp; rw [hw] at hp; cases hp
  | cons x l =>
    by_cases h00 : m.wire = 0
    · have hpe : p = miW l x := by unfold beM at hp; rw [hw] at hp; simp only [h00, if_true, Option.some.injEq] at hp; exact hp.symm
      have hi : ∀ q ∈ x :: l, q.1.1.id < 4294967296 := fun q hq => (h.wt q (by rw [hw]; exact hq)).id
      have hrow := h0.row.rk enW_k
      rw [hw] at hrow
      rw [hw] at q3
      have q4' : w0.cell? ⟨g, 4, none⟩ = some (.int .i64 0) := by rw [q4, h00]; rfl
      rw [hw] at hn
      have hmin := minFunc_any w0 a _ c x l hrow hn hi
      rw [← hpe] at hmin
      clear hw hp hpe h00 q4 h0 h
      go_enter Tryz.func116, Tryz.ntmps116
      go_wp2_with (first
        | (rw [hw0.out])
        | (go_at_call 143; (refine hmin.mono ?_); rintro e w1 ⟨rfl, g1⟩; have hb1 := bx_below hb g1)
        | (with_reducible refine wpList_storeR rowW rfl _ _ rfl _ _ rfl rfl hb1 rfl rfl (wt_ones _) ?_))
      exact bodyPost_ret (v := .agg (wtV p)) (results_row rowW rfl _ _ _ rfl (setRow_heap _ _ _ _ _ _ hb1) rfl) rfl ⟨rfl, below_setRow (bstep gg g1) (Nat.le_refl _) _⟩
    · have hpe : (x :: l).find? (fun q => decide (q.2 = m.wire)) = some p := by unfold beM at hp; rw [hw] at hp; simp only [h00, if_false] at hp; exact hp
      rw [← hw] at hpe
      obtain ⟨k, hk⟩ := find_fi hpe
      obtain ⟨hk1, hk2, hk3⟩ := hk
      obtain ⟨gb, off, ha, hgb, hr⟩ := (h.row.rk enW_k).range hk1
      subst ha
      have hkl : (k : Int) < (m.ws.length : Int) := by have := (List.getElem?_eq_some_iff.1 hk1).1; omega
      have hne : ((m.wire : Int) != 0) = true := by rw [bne_iff_ne]; omega
      have hd1 : Below w0.heap.size w0 w0.drew := (Below.refl _ _).drew
      have hd0 : Below w.heap.size w w0.drew := gg.drew
      have hfd := fun w1 (g1 : Below w0.heap.size w0 w1) => mfind_any (h0.below g1) (m.wire : Int)
      rw [hk3] at hfd
      clear hw hp hpe hk3 hk1 hk2
      have H0 := hid h00; clear h00
      go_enter Tryz.func116, Tryz.ntmps116
      go_wp2_with (rw [hw0.out])
      clear q0 q1 q2 q3 q4 q5 hw0
      go_region_held3 (fun w' => w'.cell? ⟨g, 3, none⟩ = some (.slice (some ⟨gb, off, none⟩) m.ws.length c) ∧ w'.cell? ⟨g, 4, none⟩ = some (.int .i64 (m.wire : Int)) ∧
        w'.cell? ⟨gb, off + k * 6, none⟩ = some (.int .u32 (p.1.1.id : Int)) ∧ w'.cell? ⟨gb, off + k * 6 + 1, none⟩ = some (.bool p.1.1.ext) ∧ w'.cell? ⟨gb, off + k * 6 + 2, none⟩ = some (.bool p.1.1.rem) ∧ w'.cell? ⟨gb, off + k * 6 + 3, none⟩ = some (.int .u8 (p.1.1.dlc : Int)) ∧ w'.cell? ⟨gb, off + k * 6 + 4, none⟩ = some (.slice p.1.2.1 p.1.1.data.length p.1.2.2) ∧ w'.cell? ⟨gb, off + k * 6 + 5, none⟩ = some (.int .i64 (p.2 : Int)) ∧ Below w.heap.size w w')
        (first
          | with_reducible exact heldM h hgb hr hd0
          | with_reducible exact heldM h hgb hr gg5
          | with_reducible exact heldM h hgb hr (set6_below gg5 (Nat.le_refl _) _ _ _ _ _ _))
        (first
          | (go_simp; go_at_call 78; refine Calls.mono (hfd w0.drew hd1) ?_; rintro e w5 ⟨rfl, g5⟩; have g15 : Below w0.heap.size w0 w5 := hd1.trans g5; have hb5 := bx_below hb g15; have hf5 := bx_thaw hb5; have gg5 := bstep gg g15; obtain ⟨c0, c1, c2, c3, c4, c5⟩ := bx6 hb5))
      all_goals
        go_wp2
        exact bodyPost_ret (v := .agg (wtV p)) (results_row rowW rfl _ _ _ rfl (set6_same hb5 _ _ _ _ _ _) rfl) rfl ⟨rfl, set6_below gg5 (Nat.le_refl _) _ _ _ _ _ _⟩
end Go.Proofs.YtajdbimdiodalaaGreat

namespace Go.Proofs.YtajdbimdiodalaaGreat
open Go.RowKit Go.Sort
set_option linter.unusedVariables false

theorem run_clearW (w : World) (ty : TypeId) (b o c : Nat) (hc : ∀ j, j < 6 → (w.cell? ⟨b, o + j, none⟩).isSome = true) (hf : ∀ j, j < 6 → w.frozen? ⟨b, o + j, none⟩ = false) :
    (Builtin.clear_ #[136] ty #[.slice (some ⟨b, o, none⟩) 1 c]).run Tryz.prog w = .ok (.tuple #[]) (w.setCells b o (enW w0W)) := by
  obtain ⟨i, hi, hz0, hz1, hz2⟩ := info_parts elW.info
  have hst := run_storeCells_cells (P := Tryz.prog) b o (enW w0W) 0 w (by simpa [enW, w0W] using hc) (by simpa [enW, w0W] using hf) (fun v hv => enW_k.one _ v hv)
  simp only [Nat.add_zero] at hst
  have hzc : (Builtin.zeroCells (Value.agg wtZ).cells 1).toList = enW w0W := by kernel_rfl
  simp [Builtin.clear_, run_underlying elW.und, zeroValue, typeInfo, hi, hz0, hzc, hst]

theorem flat_take {α : Type} {enc : α → List Value} {k : Nat} (hk : EnK enc k) (l : List α) (i : Nat) (hi : i ≤ l.length) : (l.flatMap enc).take (i * k) = (l.take i).flatMap enc := by
  have h1 : l.flatMap enc = (l.take i).flatMap enc ++ (l.drop i).flatMap enc := by rw [← List.flatMap_append, List.take_append_drop]
  have h2 : ((l.take i).flatMap enc).length = i * k := by rw [flat_len hk, List.length_take, Nat.min_eq_left hi]
  rw [h1, ← h2, List.take_left]

theorem del_list {cur : List Value} {ws : List Wt} {n c k : Nat} (hl : ws.length = n) (hk : k < n) (hnc : n ≤ c) (hcl : cur.length = c * 6) (ht : cur.take (n * 6) = ws.flatMap enW) (Z : List Value) (rest : List Value) :
    ((cur.take (k * 6) ++ (ws.drop (k + 1)).flatMap enW ++ rest).take ((n - 1) * 6) ++ Z).take ((n - 1) * 6) = (ws.take k ++ ws.drop (k + 1)).flatMap enW := by
  have h1 : cur.take (k * 6) = (ws.take k).flatMap enW := by
    rw [← flat_take enW_k ws k (by omega), ← ht, List.take_take, Nat.min_eq_left (by omega)]
  have h2 : ((ws.take k ++ ws.drop (k + 1)).flatMap enW).length = (n - 1) * 6 := by
    rw [flat_len enW_k, List.length_append, List.length_take, List.length_drop, hl, Nat.min_eq_left (by omega)]; omega
  rw [h1, ← List.flatMap_append, List.take_append_of_le_length (by rw [List.length_take, List.length_append, h2]; omega), ← h2, List.take_left, List.take_of_length_le (Nat.le_refl _)]

set_option maxRecDepth 100000 in
set_option maxHeartbeats 4000000 in
theorem delete_any (w : World) (B : Nat) (g n c : Nat) (ws : List Wt) (k : Nat) (hk : k < n) (hO : OK enW 6 164 B w (some ⟨g, 0, none⟩) n c ws) (hn : n ≤ 100000) :
    Calls Tryz.prog 126 #[.slice (some ⟨g, 0, none⟩) n c, .int .i64 (k : Int), .int .i64 ((k : Int) + 1)] w fun e w' => e = .returned (.slice (some ⟨g, 0, none⟩) (n - 1) c) ∧ OK enW 6 164 B w' (some ⟨g, 0, none⟩) (n - 1) c (ws.take k ++ ws.drop (k + 1)) ∧ Wr g w w' := by
  have hcap := hO.cap
  have hlen := hO.len
  rcases hO.ex with ⟨h0, _⟩ | ⟨g', cur, hg, hBg, hh, hcs, htk, hcm⟩
  · cases h0
  simp only [Option.some.injEq, Addr.mk.injEq, and_true] at hg
  subst hg
  -- the cells that are moved to the left
  obtain ⟨news, hnews⟩ : ∃ news, news = (ws.drop (k + 1)).flatMap enW := ⟨_, rfl⟩
  have hnl : news.length = (n - (k + 1)) * 6 := by rw [hnews, flat_len enW_k, List.length_drop, hlen]
  have hone : Hid (∀ u ∈ news, u.oneCell' = true) := by rw [hnews]; exact flat_one enW_k _
  have hcell : ∀ p, p < c * 6 → (w.cell? ⟨g, p, none⟩).isSome = true ∧ w.frozen? ⟨g, p, none⟩ = false := fun p hp => by
    refine ⟨?_, frozen_of_row w g p _ _ hh⟩
    rw [cell_of_row w g p _ _ _ hh, Array.getElem?_eq_getElem (by omega)]; rfl
  obtain ⟨A, hA, hsrc⟩ : ∃ A : Addr, (if c = k + 1 then some (⟨g, 0, none⟩ : Addr) else some ⟨g, (k + 1) * 6, none⟩) = some A ∧ Hid (∀ t u, news[t]? = some u → w.drew.cell? (A.add t) = some u) := by
    by_cases h : c = k + 1
    · refine ⟨⟨g, 0, none⟩, by simp [h], fun t u hu => ?_⟩
      have h0 : news.length = 0 := by rw [hnl]; omega
      rw [List.length_eq_zero_iff.1 h0] at hu
      simp at hu
    · refine ⟨⟨g, (k + 1) * 6, none⟩, by simp [h], fun t u hu => ?_⟩
      rw [hnews] at hu
      obtain ⟨i, j, x, h1, h2, h3⟩ := flat_back enW_k _ t u hu
      rw [List.getElem?_drop] at h1
      have := hO.range enW_k h1
      rw [Addr.add_lit]
      have h4 := this j u h2
      show w.cell? _ = _
      rw [← h4]; congr 2; omega
  have s1 : Hid (news.length = (n - (k + 1)) * 6) := hnl
  have s3 : Hid (∀ t, t < news.length → (w.drew.cell? ⟨g, 0 + k * 6 + t, none⟩).isSome = true ∧ w.drew.frozen? ⟨g, 0 + k * 6 + t, none⟩ = false) := fun t ht => by
    have := hcell (0 + k * 6 + t) (by rw [hnl] at ht; omega)
    exact this
  obtain ⟨W1, hW1⟩ : ∃ W1, W1 = w.drew.setCells g (0 + k * 6) news := ⟨_, rfl⟩
  have hW : Hid (W1 = w.drew.setCells g (0 + k * 6) news) := hW1
  have hkc : k ≤ c := by omega
  have hkc1 : k + 1 ≤ c := by omega
  have hi1 : 0 ≤ (k : Int) + 1 := by omega
  have hi2 : (k : Int) + 1 ≤ (n : Int) := by omega
  obtain ⟨i0, hi0, hz0, hz1, hz2⟩ := info_parts elW.info
  have hh1 : W1.heap[g]? = some (.cells (wrC cur (0 + k * 6) news) 164 (0, 0)) := by rw [hW1]; exact heap_setCells_same g _ news _ w.drew cur hh
  have hs1 : (wrC cur (0 + k * 6) news).size = c * 6 := by rw [wrC_size, hcs]
  have hcl : ∀ ty, (Builtin.clear_ #[136] ty #[.slice (some ⟨g, (k + (n - (k + 1))) * 6, none⟩) (n - (k + (n - (k + 1)))) (c - (k + (n - (k + 1))))]).run Tryz.prog W1 = .ok (.tuple #[]) (W1.setCells g ((k + (n - (k + 1))) * 6) (enW w0W)) := fun ty => by
    rw [show n - (k + (n - (k + 1))) = 1 by omega]
    refine run_clearW W1 ty g _ _ (fun j hj => ?_) (fun j hj => frozen_of_row W1 g _ _ _ hh1)
    rw [cell_of_row W1 g _ _ _ _ hh1, Array.getElem?_eq_getElem (by rw [hs1]; omega)]; rfl
  obtain ⟨W2, hW2⟩ : ∃ W2, W2 = W1.setCells g ((k + (n - (k + 1))) * 6) (enW w0W) := ⟨_, rfl⟩
  rw [← hW2] at hcl
  have hh2 : W2.heap[g]? = some (.cells (wrC (wrC cur (0 + k * 6) news) ((k + (n - (k + 1))) * 6) (enW w0W)) 164 (0, 0)) := by rw [hW2]; exact heap_setCells_same g _ _ _ W1 _ hh1
  have hwr : Wr g w W2 := by
    have h1 : Wr g w.drew W1 := by rw [hW1]; exact wr_setCells g news _ _
    have h2 : Wr g W1 W2 := by rw [hW2]; exact wr_setCells g _ _ _
    exact ((Wr.refl g w).drew.trans h1).trans h2
  have hfin : OK enW 6 164 B W2 (some ⟨g, 0, none⟩) (n - 1) c (ws.take k ++ ws.drop (k + 1)) := by
    refine ⟨by rw [List.length_append, List.length_take, List.length_drop, hlen, Nat.min_eq_left (by omega)]; omega, by omega, ?_⟩
    refine ⟨by rw [flat_len enW_k, List.length_append, List.length_take, List.length_drop, hlen, Nat.min_eq_left (by omega)]; omega, .inr ⟨g, c, _, rfl, hBg, hh2, by omega, hcm, by rw [wrC_size, hs1], ?_⟩⟩
    have e1 : (k + (n - (k + 1))) * 6 = (n - 1) * 6 := by omega
    have e2 : (enW w0W).length = 6 := rfl
    rw [wrC_list _ _ _ (by rw [hs1, e2]; omega), wrC_list _ _ _ (by rw [hnl, hcs]; omega), e1, Nat.zero_add, hnews, List.append_assoc]
    exact del_list hlen hk hcap (by rw [Array.length_toList, hcs]) htk _ _
  have HF := hid hfin
  have HW := hid hwr
  have hi3 : (k : Int) + ((n - (k + 1) : Nat) : Int) ≤ (n : Int) := by omega
  clear hW1 hnews hnl hO hlen htk hcm hcs hh hcell hh1 hs1 hh2 hwr hfin hW2
  go_enter Tryz.func126, Tryz.ntmps126
  go_wp2_with fail
  go_region_law (refine step_append_room rfl (.tmp 22) (.tmp 25) 136 rfl 164 i0 6 elW.und hi0 hz1 g 0 k c (by simp [Act.eval, Act.put]) A (n - (k + 1)) (c - (k + 1)) news (by simp [Act.eval, Act.put]) s1.out hsrc.out hone.out (by omega) s3.out ?_; rw [← hW.out])
  go_wp2
  go_ret
  exact ⟨by rw [show n - 1 = k + (n - (k + 1)) by omega]; rfl, HF.out, HW.out⟩
end Go.Proofs.YtajdbimdiodalaaGreat

namespace Go.Proofs.YtajdbimdiodalaaGreat
open Go.RowKit Go.Sort
set_option linter.unusedVariables false

section
variable {B : Nat} {w w1 : World} {g : Nat} {m : Ml} {a : Option Addr} {c : Nat} {S : Nat → Prop}

theorem MlO.thaw (h : MlO B w g m a c S) (i : Nat) : w.frozen? ⟨g, i, none⟩ = false := bx_thaw h.box i

/-- One cell of a mail's box, stored. -/
theorem MlO.cell (h : MlO B w g m a c S) (i : Nat) (v : Value) (m' : Ml) (hc : (mlV g m a c).setIfInBounds i v = mlV g m' a c) (hw : m'.ws = m.ws) (hr : m'.room = m.room) (hp : m'.puts < 4611686018427387904) (hwi : m'.wire < 4611686018427387904) :
    MlO B (w.setCell ⟨g, i, none⟩ v) g m' a c S := by
  have k : Ch S w (w.setCell ⟨g, i, none⟩ v) := (Ch.refl S w).setCell (p := ⟨g, i, none⟩) (.inl h.sg) v
  have e : ∀ b, b ≠ g → (w.setCell ⟨g, i, none⟩ v).heap[b]? = w.heap[b]? := fun b hb => Below.heap_setCell _ _ _ _ hb
  refine ⟨?_, ?_, ?_, h.hB, h.sg, h.sr, by rw [hw]; exact h.sd, h.sB, h.ng, by rw [hw]; exact h.nd, by rw [hr]; exact h.rm, by rw [hw, hr]; exact h.le, hp, hwi, fun q hq => Nat.lt_of_lt_of_le (h.sL q hq) k.size⟩
  · rw [heap_setCell_same w g i _ _ v h.box, hc]
  · rw [hw]; exact h.row.kept fun b hb => e b (by have := h.ng; subst hb; exact this.block)
  · rw [hw]
    exact fun p hp' => ⟨(h.wt p hp').dat.ch (S := fun b => b = g) (Ch.setCell (S := fun b => b = g) (Ch.refl _ w) (p := ⟨g, i, none⟩) (.inl rfl) v) (fun q hq e => (h.nd p hp').1 q hq e), (h.wt p hp').id, (h.wt p hp').dl, (h.wt p hp').len, (h.wt p hp').num⟩

theorem rm_len {n : Nat} {ws : List Wt} (h : ∃ p ∈ ws, p.2 = n) : (rmW n ws).length + 1 = ws.length := by
  obtain ⟨p, hp, he⟩ := h
  unfold rmW
  have := List.length_eraseP_of_mem (p := fun q => decide (q.2 = n)) hp (by simpa using he)
  have h0 : 0 < ws.length := List.length_pos_of_mem hp
  omega
theorem rm_sub {n : Nat} {ws : List Wt} : ∀ p ∈ rmW n ws, p ∈ ws := fun p hp => List.mem_of_mem_eraseP hp

set_option maxRecDepth 100000 in
set_option maxHeartbeats 4000000 in
theorem remove_any (h : MlO B w g m a c S) (N : Nat) (hN : ∃ p ∈ m.ws, p.2 = N) :
    Calls Tryz.prog 89 #[.pointer (some ⟨g, 0, none⟩), .int .i64 (N : Int)] w fun e w' => e = .returned (.tuple #[]) ∧ MlO B w' g { m with ws := rmW N m.ws } a c S ∧ Ch S w w' := by
  obtain ⟨k, p, hk, hp, hf, hlo⟩ : ∃ (k : Nat) (p : Wt), m.ws[k]? = some p ∧ p.2 = N ∧ fiW (N : Int) m.ws = (k : Int) ∧ ∀ (j : Nat) (q : Wt), j < k → m.ws[j]? = some q → q.2 ≠ N := by
    obtain ⟨p, hp, he⟩ := hN
    rcases fiW_or (N : Int) m.ws with ⟨_, h2⟩ | ⟨k, q, h1, h2, h3, h4⟩
    · exact absurd (by omega) (h2 p hp)
    · exact ⟨k, q, h1, by omega, h3, fun j q hj hq e => h4 j q hj hq (by omega)⟩
  have hfd := mfind_any h (N : Int)
  rw [hf] at hfd
  have hrm := rmW_at hk hp hlo
  have hkl := (List.getElem?_eq_some_iff.1 hk).1
  obtain ⟨gr, hgr, hgB, hgl⟩ := h.row.addr (by omega)
  have hng : gr ≠ g := by have := h.ng; subst hgr; exact this.block
  have hn : m.ws.length ≤ 100000 := by have := h.rm; have := h.le; omega
  have hl1 := rm_len hN
  clear hf hk hp hlo
  subst hgr
  go_enter Tryz.func89, Tryz.ntmps89
  go_wp2_with (first
    | (go_at_call 78; (refine hfd.mono ?_); rintro e w1 ⟨rfl, g1⟩
       have h1 := h.below g1
       have q3 := (bx6 h1.box).2.2.2.1
       have hz := h1.thaw 3)
    | (go_at_call 126; (refine (delete_any _ B gr m.ws.length c m.ws k hkl h1.row hn).mono ?_); rintro e w2 ⟨rfl, o2, r2⟩
       have hb2 : w2.heap[g]? = some (.cells (mlV g m (some ⟨gr, 0, none⟩) c) 138 (0, 0)) := (r2.block g h1.lt (Ne.symm hng)).trans h1.box
       have hz2 := bx_thaw hb2
       have q32 := (bx6 hb2).2.2.2.1))
  have hb3 : (w2.setCell ⟨g, 3, none⟩ (.slice (some ⟨gr, 0, none⟩) (m.ws.length - 1) c)).heap[g]? = some (.cells (mlV g { m with ws := rmW N m.ws } (some ⟨gr, 0, none⟩) c) 138 (0, 0)) := by
    rw [heap_setCell_same w2 g 3 _ _ _ hb2]
    show some (Obj.cells #[_, _, _, Value.slice _ (m.ws.length - 1) c, _, _] _ _) = some (Obj.cells #[_, _, _, Value.slice _ (rmW N m.ws).length c, _, _] _ _)
    rw [show m.ws.length - 1 = (rmW N m.ws).length by omega]
  have hch : Ch S w (w2.setCell ⟨g, 3, none⟩ (.slice (some ⟨gr, 0, none⟩) (m.ws.length - 1) c)) := by
    have k1 : Ch S w1 w2 := ⟨r2.os, r2.tape, r2.output, r2.size, fun b hb hs => r2.block b hb (fun e => hs (by rw [e]; exact h.sr _ rfl))⟩
    exact (((Ch.refl S w).call g1).trans k1 (fun b hb => .inl hb)).setCell (p := ⟨g, 3, none⟩) (.inl h.sg) _
  have hrow : OK enW 6 164 B (w2.setCell ⟨g, 3, none⟩ (.slice (some ⟨gr, 0, none⟩) (m.ws.length - 1) c)) (some ⟨gr, 0, none⟩) (rmW N m.ws).length c (rmW N m.ws) := by
    rw [hrm, show (m.ws.take k ++ m.ws.drop (k + 1)).length = m.ws.length - 1 by rw [← hrm]; omega]
    exact o2.kept fun b hb => Below.heap_setCell _ _ _ _ (by cases hb; exact hng)
  have hwt : ∀ p ∈ rmW N m.ws, WtR (w2.setCell ⟨g, 3, none⟩ (.slice (some ⟨gr, 0, none⟩) (m.ws.length - 1) c)) p := fun p hp => by
    have hm := rm_sub p hp
    have hd := h1.nd p hm
    have hw2 : WtR w2 p := (h1.wt p hm).ch (S := fun b => b = gr) ⟨r2.os, r2.tape, r2.output, r2.size, fun b hb hs => r2.block b hb hs⟩ (fun q hq e => hd.2 _ rfl q hq e)
    exact hw2.ch (S := fun b => b = g) (Ch.setCell (S := fun b => b = g) (Ch.refl _ w2) (p := ⟨g, 3, none⟩) (.inl rfl) _) (fun q hq e => hd.1 q hq e)
  exact bodyPost_end (v := .tuple #[]) (by simp [results, Tryz.results89, go_sem]) rfl ⟨rfl, ⟨hb3, hrow, hwt, h.hB, h.sg, h.sr, fun p hp => h.sd p (rm_sub p hp), h.sB, h.ng, fun p hp => h.nd p (rm_sub p hp), h.rm, by show (rmW N m.ws).length ≤ m.room; have := h.le; omega, h.pu, h.wi, fun q hq => Nat.lt_of_lt_of_le (h.sL q hq) hch.size⟩, hch⟩
end
end Go.Proofs.YtajdbimdiodalaaGreat

namespace Go.Proofs.YtajdbimdiodalaaGreat
open Go.RowKit Go.Sort
set_option linter.unusedVariables false

/-- Does a number wait? -/
def hasW (n : Int) (ws : List Wt) : Bool := decide (0 ≤ fiW n ws)
theorem hasW_yes {n : Int} {ws : List Wt} (h : hasW n ws = true) : ∃ p ∈ ws, (p.2 : Int) = n := by
  rcases fiW_or n ws with ⟨h1, _⟩ | ⟨k, p, h1, h2, _, _⟩
  · unfold hasW at h; rw [h1] at h; simp at h
  · exact ⟨p, List.mem_of_getElem? h1, h2⟩
section
variable {B : Nat} {w w1 : World} {g : Nat} {m : Ml} {a : Option Addr} {c : Nat} {S : Nat → Prop}

/-- What is left behind a method that keeps the row's place. -/
def Mle (B : Nat) (w : World) (g : Nat) (m' : Ml) (a : Option Addr) (c : Nat) (S : Nat → Prop) (w' : World) : Prop := MlO B w' g m' a c S ∧ Ch S w w'

/-- The mail as free leaves it. -/
def frM (m : Ml) : Ml := { m with wire := 0, ab := false }

set_option maxRecDepth 100000 in
theorem free_any (h : MlO B w g m a c S) :
    Calls Tryz.prog 90 #[.pointer (some ⟨g, 0, none⟩)] w fun e w' => e = .returned (.tuple #[]) ∧ Mle B w g (frM m) a c S w' := by
  have q4 := (bx6 h.box).2.2.2.2.1
  have q5 := (bx6 h.box).2.2.2.2.2
  have hf := h.thaw
  go_enter Tryz.func90, Tryz.ntmps90
  go_wp2
  have h1 := h.cell 4 (.int .i64 0) { m with wire := 0 } rfl rfl rfl h.pu (by show 0 < _; omega)
  have h2 := h1.cell 5 (.bool false) (frM m) rfl rfl rfl h.pu (by show 0 < _; omega)
  exact bodyPost_end (v := .tuple #[]) (by simp [results, Tryz.results90, go_sem]) rfl ⟨rfl, h2, ((Ch.refl S w).setCell (p := ⟨g, 4, none⟩) (.inl h.sg) _).setCell (p := ⟨g, 5, none⟩) (.inl h.sg) _⟩

set_option maxRecDepth 100000 in
theorem waits_any (h : MlO B w g m a c S) (N : Int) :
    Calls Tryz.prog 50 #[.pointer (some ⟨g, 0, none⟩), .int .i64 N] w fun e w' => e = .returned (.bool (hasW N m.ws)) ∧ Below w.heap.size w w' := by
  have hm := mlMade_any h
  have hf := mfind_any h N
  unfold hasW
  generalize fiW N m.ws = z at *
  go_enter Tryz.func50, Tryz.ntmps50
  go_wp2_with (first
    | (go_at_call 76; (refine hm.mono ?_); rintro e w1 ⟨rfl, rfl⟩)
    | (go_at_call 78; (refine hf.mono ?_); rintro e w1 ⟨rfl, g1⟩))
  go_ret
  exact ⟨rfl, g1⟩
end
end Go.Proofs.YtajdbimdiodalaaGreat

namespace Go.Proofs.YtajdbimdiodalaaGreat
open Go.RowKit Go.Sort
set_option linter.unusedVariables false

/-- The mail behind Lost, Sent, Start, Abort. -/
def rmM (n : Nat) (m : Ml) : Ml := { m with ws := rmW n m.ws }
def loM (m : Ml) : Ml := if m.ab then frM (rmM m.wire m) else frM m
def seM (m : Ml) : Ml := if m.wire = 0 then m else frM (rmM m.wire m)
section
variable {B : Nat} {w w1 w2 w3 : World} {g : Nat} {m m1 m2 : Ml} {a : Option Addr} {c : Nat} {S : Nat → Prop}

theorem Mle.refl (h : MlO B w g m a c S) : Mle B w g m a c S w := ⟨h, Ch.refl S w⟩
theorem Mle.call (h : Mle B w g m a c S w1) (k : Below w1.heap.size w1 w2) : Mle B w g m a c S w2 := ⟨h.1.below k, h.2.call k⟩
theorem Mle.trans (h : Mle B w g m a c S w1) (k : Mle B w1 g m1 a c S w2) : Mle B w g m1 a c S w2 := ⟨k.1, h.2.trans k.2 fun b hb => .inl hb⟩

set_option maxRecDepth 100000 in
set_option maxHeartbeats 1000000 in
theorem lost_any (h : MlO B w g m a c S) (hI : MlI m) :
    Calls Tryz.prog 83 #[.pointer (some ⟨g, 0, none⟩)] w fun e w' => e = .returned (.tuple #[]) ∧ Mle B w g (loM m) a c S w' := by
  have q4 := (bx6 h.box).2.2.2.2.1
  have q5 := (bx6 h.box).2.2.2.2.2
  have hm := mlMade_any h
  cases hab : m.ab
  · have hF : loM m = frM m := by unfold loM; rw [hab]; rfl
    rw [hF]; clear hF
    rw [hab] at q5
    have hf := free_any h
    clear hab
    go_enter Tryz.func83, Tryz.ntmps83
    go_wp2_with (first
      | (go_at_call 76; (refine hm.mono ?_); rintro e w1 ⟨rfl, rfl⟩)
      | (go_at_call 90; (refine hf.mono ?_); rintro e w1 ⟨rfl, o1⟩))
    exact bodyPost_end (v := .tuple #[]) (by simp [results, Tryz.results83, go_sem]) rfl ⟨rfl, o1⟩
  · have hF : loM m = frM (rmM m.wire m) := by unfold loM; rw [hab]; rfl
    rw [hF]; clear hF
    rw [hab] at q5
    have hN : ∃ p ∈ m.ws, p.2 = m.wire := hI.wr.resolve_left (hI.aw hab)
    have hr := remove_any h m.wire hN
    clear hab hN
    go_enter Tryz.func83, Tryz.ntmps83
    go_wp2_with (first
      | (go_at_call 76; (refine hm.mono ?_); rintro e w1 ⟨rfl, rfl⟩)
      | (go_at_call 89; (refine hr.mono ?_); rintro e w1 ⟨rfl, o1, k1⟩)
      | (go_at_call 90; (refine (free_any o1).mono ?_); rintro e w2 ⟨rfl, o2, k2⟩))
    exact bodyPost_end (v := .tuple #[]) (by simp [results, Tryz.results83, go_sem]) rfl ⟨rfl, o2, k1.trans k2 fun b hb => .inl hb⟩

set_option maxRecDepth 100000 in
set_option maxHeartbeats 1000000 in
theorem sent_any (h : MlO B w g m a c S) (hI : MlI m) :
    Calls Tryz.prog 60 #[.pointer (some ⟨g, 0, none⟩)] w fun e w' => e = .returned (.tuple #[.int .i64 (m.wire : Int), .bool (decide (m.wire ≠ 0))]) ∧ Mle B w g (seM m) a c S w' := by
  have q4 := (bx6 h.box).2.2.2.2.1
  have hm := mlMade_any h
  by_cases h0 : m.wire = 0
  · have hF : seM m = m := by unfold seM; rw [if_pos h0]
    rw [hF, h0]; clear hF
    rw [h0] at q4
    go_enter Tryz.func60, Tryz.ntmps60
    go_wp2_with (go_at_call 76; (refine hm.mono ?_); rintro e w1 ⟨rfl, rfl⟩)
    go_ret2
    exact ⟨rfl, Mle.refl h⟩
  · have hF : seM m = frM (rmM m.wire m) := by unfold seM; rw [if_neg h0]
    rw [hF, show decide (m.wire ≠ 0) = true by simpa using h0]; clear hF
    have hN : ∃ p ∈ m.ws, p.2 = m.wire := hI.wr.resolve_left h0
    have hr := remove_any h m.wire hN
    have hne : ((m.wire : Int) == 0) = false := by rw [beq_eq_false_iff_ne]; omega
    clear hN h0
    go_enter Tryz.func60, Tryz.ntmps60
    go_wp2_with (first
      | (go_at_call 76; (refine hm.mono ?_); rintro e w1 ⟨rfl, rfl⟩)
      | (go_at_call 89; (refine hr.mono ?_); rintro e w1 ⟨rfl, o1, k1⟩)
      | (go_at_call 90; (refine (free_any o1).mono ?_); rintro e w2 ⟨rfl, o2, k2⟩))
    go_ret2
    exact ⟨rfl, o2, k1.trans k2 fun b hb => .inl hb⟩

set_option maxRecDepth 100000 in
set_option maxHeartbeats 1000000 in
theorem start_no (h : MlO B w g m a c S) (h0 : m.ws = []) :
    Calls Tryz.prog 84 #[.pointer (some ⟨g, 0, none⟩)] w fun e w' => e = .returned (.tuple #[.int .i64 0, .bool false]) ∧ w = w' := by
  have q3 := (bx6 h.box).2.2.2.1
  have hm := mlMade_any h
  rw [h0] at q3
  clear h0
  go_enter Tryz.func84, Tryz.ntmps84
  go_wp2_with (go_at_call 76; (refine hm.mono ?_); rintro e w1 ⟨rfl, rfl⟩)
  go_ret2
  exact ⟨rfl, rfl⟩

theorem fieldW (v0 v1 v2 v3 v4 v5 : Value) (w : World) : (Instr.field 164 (.agg #[v0, v1, v2, v3, v4, v5]) 1).run Tryz.prog w = .ok v5 w := by kernel_rfl
theorem beM_num {m : Ml} {p : Wt} (h : beM m = some p) : p ∈ m.ws := by
  unfold beM at h
  cases hw : m.ws with
  | nil => rw [hw] at h; cases h
  | cons x l =>
    rw [hw] at h
    simp only at h
    split at h
    · simp only [Option.some.injEq] at h
      rcases miW_mem l x with e | e
      · rw [← h, e]; simp
      · rw [← h]; simp [e]
    · exact List.mem_of_find?_eq_some h

set_option maxRecDepth 100000 in
set_option maxHeartbeats 1000000 in
theorem start_any (h : MlO B w g m a c S) (p : Wt) (hp : beM m = some p) :
    Calls Tryz.prog 84 #[.pointer (some ⟨g, 0, none⟩)] w fun e w' => e = .returned (.tuple #[.int .i64 (p.2 : Int), .bool true]) ∧ Mle B w g { m with wire := p.2 } a c S w' := by
  have q3 := (bx6 h.box).2.2.2.1
  have hm := mlMade_any h
  have hmem := beM_num hp
  have hl := List.length_pos_of_mem hmem
  have hne : ((m.ws.length : Int) == 0) = false := by rw [beq_eq_false_iff_ne]; omega
  have hf := first_any h p hp
  have hpn := (h.wt p hmem).num
  have hfw := fun v0 v1 v2 v3 v4 v5 w => fieldW v0 v1 v2 v3 v4 v5 w
  clear hp
  go_enter Tryz.func84, Tryz.ntmps84
  go_wp2_with (first
    | (go_at_call 76; (refine hm.mono ?_); rintro e w1 ⟨rfl, rfl⟩)
    | (go_at_call 116; (refine hf.mono ?_); rintro e w1 ⟨rfl, g1⟩
       have h1 := h.below g1
       have hz := h1.thaw
       have h2 := h1.cell 4 (.int .i64 (p.2 : Int)) { m with wire := p.2 } rfl rfl rfl h.pu hpn
       have q4 := (bx6 h1.box).2.2.2.2.1))
  go_ret2
  exact ⟨rfl, h2, ((Ch.refl S w).call g1).setCell (p := ⟨g, 4, none⟩) (.inl h.sg) _⟩
end
end Go.Proofs.YtajdbimdiodalaaGreat

namespace Go.Proofs.YtajdbimdiodalaaGreat
open Go.RowKit Go.Sort
set_option linter.unusedVariables false

theorem step_appgK {P : Program} {T E : TypeId} {k : Nat} {z : Value} {bytes : Nat} {α : Type} {enc : α → List Value} {B : Nat} {w : World} {a : Option Addr} {n c : Nat} {l m : List α} {ops : Array Oper} {o : Oper} {ac : Act} {K : Act → World → Prop} {Q : Exit → Act → World → Prop} {R : Prop}
    (hT : ElK P T E k z bytes) (hk : EnK enc k) (hgd : o.guard = none) (s x : Operand)
    (ho : o.op = .call { callee := .builtin .append, args := #[s, x], argTypes := #[T, T] })
    {a2 : Option Addr} {n2 c2 : Nat} (hs : ac.eval s = .slice a n c) (hown : OK enc k E B w a n c l) (hx : ac.eval x = .slice a2 n2 c2) (hr : RK enc k w a2 n2 c2 m) (h0 : 0 < n2)
    (h63 : n + n2 ≤ 1000000000) (hby : bytes ≤ 64) (hbase : B ≤ w.heap.size)
    (h : ∀ w' a' c', OK enc k E B w' a' (n + n2) c' (l ++ m) → Below B w w' → (∀ q, q < w.heap.size → NB a q → w'.heap[q]? = w.heap[q]? ∧ NB a' q) → w.heap.size ≤ w'.heap.size → K (ac.put o.dst (.slice a' (n + n2) c')) w') :
    if Region.wanted o (yielded ops ac.tmps) = true then Oper.wp P o ac w K Q else R := by
  rw [if_pos (by simp [Region.wanted, hgd])]
  exact wp_appgK hT hk s x ho hs hown hx hr h0 h63 hby hbase h

section
variable {B : Nat} {w w1 w2 w3 : World} {g : Nat} {m m1 m2 : Ml} {a : Option Addr} {c : Nat} {S : Nat → Prop}

/-- The mail behind Put. -/
def puM (F : Fr) (da : Option Addr) (dc : Nat) (m : Ml) : Ml := { m with puts := m.puts + 1, ws := m.ws ++ [((F, (da, dc)), m.puts + 1)] }

/-- What Put leaves, put together. -/
theorem put_fin {F : Fr} {da a' : Option Addr} {dc c' : Nat} {w5 w7 : World} {o : Obj} (h3 : MlO B w3 g { m with puts := m.puts + 1 } a c S) (hw : w.heap.size ≤ w3.heap.size) (hgw : g < w.heap.size) (hS : ∀ b, S b → b < w.heap.size) (hk3 : Ch S w w3)
    (hi : F.id < 4294967296) (hd : F.dlc < 256) (hlen : F.data.length ≤ 1000000) (hl : m.ws.length < m.room) (hpu : m.puts + 1 < 4611686018427387904)
    (g5 : Below w3.heap.size w3 w5) (o5 : OL bv 5 w3.heap.size w5 da F.data.length dc F.data)
    (o7 : OK enW 6 164 B w7 a' (m.ws.length + 1) c' (m.ws ++ [((F, (da, dc)), m.puts + 1)])) (g7 : Below B (w5.alloc o) w7) (hkeep : ∀ q, q < (w5.alloc o).heap.size → NB a q → w7.heap[q]? = (w5.alloc o).heap[q]? ∧ NB a' q) (hsz : (w5.alloc o).heap.size ≤ w7.heap.size) :
    MlO B (w7.setCell ⟨g, 3, none⟩ (.slice a' (m.ws.length + 1) c')) g (puM F da dc m) a' c' (fun b => S b ∨ (w.heap.size ≤ b ∧ b < w7.heap.size)) ∧ Ch S w (w7.setCell ⟨g, 3, none⟩ (.slice a' (m.ws.length + 1) c')) := by
  have z5 := g5.size
  have za : (w5.alloc o).heap.size = w5.heap.size + 1 := by simp
  have h5 := (h3.below g5).alloc o
  have hg5 := h3.lt
  have kA : Ch (fun b => ∃ q, a = some q ∧ q.block = b) (w5.alloc o) w7 := ⟨g7.os, g7.tape, g7.output, hsz, fun b hb hn => (hkeep b hb (fun q hq e => hn ⟨q, hq, e⟩)).1⟩
  have hbx : w7.heap[g]? = some (.cells (mlV g { m with puts := m.puts + 1 } a c) 138 (0, 0)) := (hkeep g (by omega) h3.ng).1.trans h5.box
  have hng' : NB a' g := (hkeep g (by omega) h3.ng).2
  have haS : ∀ q, a' = some q → S q.block ∨ (w.heap.size ≤ q.block ∧ q.block < w7.heap.size) := fun q hq => by
    have hlt := (o7.ltB hq).1
    by_cases hb : q.block < (w5.alloc o).heap.size
    · by_cases hn : NB a q.block
      · exact absurd rfl ((hkeep _ hb hn).2 q hq)
      · left
        have : ∃ q0, a = some q0 ∧ q0.block = q.block := by
          cases a with
          | none => exact absurd (NB.nil _) hn
          | some q0 => by_cases e : q0.block = q.block; exact ⟨q0, rfl, e⟩; exact absurd (fun p hp => by cases hp; exact e) hn
        obtain ⟨q0, h1, h2⟩ := this
        rw [← h2]; exact h3.sr q0 h1
    · right; omega
  have hsw : (w7.setCell ⟨g, 3, none⟩ (.slice a' (m.ws.length + 1) c')).heap.size = w7.heap.size := by simp [World.setCell]
  have hoth : ∀ b, b ≠ g → (w7.setCell ⟨g, 3, none⟩ (.slice a' (m.ws.length + 1) c')).heap[b]? = w7.heap[b]? := fun b hb => Below.heap_setCell _ _ _ _ hb
  have kG : Ch (fun b => b = g) w7 (w7.setCell ⟨g, 3, none⟩ (.slice a' (m.ws.length + 1) c')) := Ch.setCell (S := fun b => b = g) (Ch.refl _ w7) (p := ⟨g, 3, none⟩) (.inl rfl) _
  have hdl : ∀ q, da = some q → q.block < w5.heap.size ∧ w3.heap.size ≤ q.block := fun q hq => o5.ltB hq
  have hbB := h3.hB
  have naA : ∀ q, a = some q → q.block < w.heap.size := fun q hq => hS _ (h3.sr q hq)
  have hch : Ch S w (w7.setCell ⟨g, 3, none⟩ (.slice a' (m.ws.length + 1) c')) := by
    have k1 := (hk3.call g5).alloc o
    have k2 := k1.trans kA (fun b hb => by obtain ⟨q, h1, h2⟩ := hb; left; rw [← h2]; exact h3.sr q h1)
    exact k2.setCell (p := ⟨g, 3, none⟩) (.inl h3.sg) _
  refine ⟨⟨?_, ?_, ?_, h3.hB, .inl h3.sg, haS, ?_, ?_, hng', ?_, h3.rm, ?_, hpu, h3.wi, ?_⟩, hch⟩
  · rw [heap_setCell_same w7 g 3 _ _ _ hbx]
    show some (Obj.cells #[_, _, _, Value.slice a' (m.ws.length + 1) c', _, _] _ _) = some (Obj.cells #[_, _, _, Value.slice a' (puM F da dc m).ws.length c', _, _] _ _)
    rw [show (puM F da dc m).ws.length = m.ws.length + 1 by simp [puM]]
    rfl
  · rw [show (puM F da dc m).ws.length = m.ws.length + 1 by simp [puM]]
    exact o7.kept fun b hb => hoth b (by have := hng'; subst hb; exact this.block)
  · intro p hp
    rcases List.mem_append.1 hp with hp | hp
    · exact ((h5.wt p hp).ch kA (fun q hq ⟨q0, e1, e2⟩ => (h3.nd p hp).2 q0 e1 q hq e2.symm)).ch kG (fun q hq e => (h3.nd p hp).1 q hq e)
    · simp at hp
      subst hp
      have hr := ((o5.alloc o).rl.ch kA (fun q hq ⟨q0, e1, e2⟩ => by have := (hdl q hq).2; have := naA q0 e1; omega)).ch kG (fun q hq e => by have := (hdl q hq).2; omega)
      exact ⟨hr, hi, hd, hlen, hpu⟩
  · intro p hp q hq
    rcases List.mem_append.1 hp with hp | hp
    · exact .inl (h3.sd p hp q hq)
    · simp at hp
      subst hp
      have := hdl q hq
      right; omega
  · intro b hb
    rcases hb with hb | hb
    · exact h3.sB b hb
    · omega
  · intro p hp
    rcases List.mem_append.1 hp with hp | hp
    · refine ⟨(h3.nd p hp).1, fun q hq => ?_⟩
      intro q1 hq1 e
      have h1 := hS _ (h3.sd p hp q1 hq1)
      have hb : q.block < (w5.alloc o).heap.size := by omega
      by_cases hn : NB a q.block
      · exact (hkeep _ hb hn).2 q hq rfl
      · cases a with
        | none => exact hn (NB.nil _)
        | some q0 =>
          refine hn fun p2 hp2 => ?_
          cases hp2
          intro e2
          exact (h3.nd p hp).2 q0 rfl q1 hq1 (by omega)
    · simp at hp
      subst hp
      refine ⟨fun q hq e => by have := (hdl q hq).2; omega, fun q hq q1 hq1 e => ?_⟩
      have h1 := hdl q1 hq1
      have hn : NB a q1.block := fun p2 hp2 e2 => by have := naA p2 hp2; omega
      exact (hkeep _ (by omega) hn).2 q hq e.symm
  · show (puM F da dc m).ws.length ≤ m.room
    rw [show (puM F da dc m).ws.length = m.ws.length + 1 by simp [puM]]; omega
  · intro b hb
    rw [hsw]
    rcases hb with hb | hb
    · have := hS b hb; omega
    · omega

/-- What Put answers, and leaves. -/
def PutR (B : Nat) (w : World) (g : Nat) (m : Ml) (F : Fr) (S : Nat → Prop) (e : Ending) (w' : World) : Prop :=
  ∃ a' c' S' da dc, e = .returned (.tuple #[.int .i64 ((m.puts : Int) + 1), .int .i64 0]) ∧ MlO B w' g (puM F da dc m) a' c' S' ∧ Ch S w w' ∧ (∀ b, S' b → S b ∨ w.heap.size ≤ b)

set_option maxRecDepth 100000 in
set_option maxHeartbeats 8000000 in
theorem mlPut_any (h : MlO B w g m a c S) (F : Fr) (fa : Option Addr) (fc : Nat) (hi : F.id < 4294967296) (hd : F.dlc < 256) (hr : riF F.id F.ext F.rem F.dlc F.data.length = true) (hl : m.ws.length < m.room) (hpu : m.puts + 1 < 4611686018427387904) (hR : ∀ w', Ch S w w' → RL bv w' fa F.data.length fc F.data) (hlen : F.data.length ≤ 1000000) :
    Calls Tryz.prog 56 #[.pointer (some ⟨g, 0, none⟩), .agg (frV F fa fc)] w (PutR B w g m F S) := by
  obtain ⟨w0, hw0, h0, hb, gg⟩ : ∃ w0, Hid (w.alloc (.cells (frV F fa fc) 35) = w0) ∧ MlO B w0 g m a c S ∧ w0.heap[w.heap.size]? = some (.cells (frV F fa fc) 35 (0, 0)) ∧ Below w.heap.size w w0 := ⟨_, rfl, h.alloc _, heap_alloc_new w _, bnew0 w _⟩
  obtain ⟨x0, x1, x2, x3, x4⟩ := bx5 hb
  have hm := mlMade_any h0
  have hRi := frRight_any w0 F.id F.ext F.rem F.dlc fa F.data.length fc hi hd
  rw [hr] at hRi
  clear hr
  have he : ((m.ws.length : Int) == (m.room : Int)) = false := by rw [beq_eq_false_iff_ne]; omega
  have hgB : g < w.heap.size := h.lt
  have hpu' : (m.puts : Int) + 1 < 4611686018427387904 := by omega
  have HL := hid hl; clear hl
  go_enter Tryz.func56, Tryz.ntmps56
  go_wp2_with (first
    | (go_at_call 76; rw [hw0.out]; (refine hm.mono ?_); rintro e w1 ⟨rfl, rfl⟩)
    | (go_at_call 53; (refine hRi.mono ?_); rintro e w1 ⟨rfl, g1⟩
       have h1 := h0.below g1
       have q1 := (bx6 h1.box).2.1
       have q3 := (bx6 h1.box).2.2.2.1))
  go_quiet (fail)
  rename_i nq
  have h2 := h1.below (below_drewN (Below.refl w1.heap.size w1) nq)
  have g2 := below_drewN (bstep gg g1) nq
  have b2 := bx_below hb (g1.trans (below_drewN (Below.refl w0.heap.size w1) nq))
  generalize w1.drewN nq = w2 at *
  have q2 := (bx6 h2.box).2.2.1
  have hz := h2.thaw
  have h3 : MlO B (w2.setCell ⟨g, 2, none⟩ (.int .i64 ((m.puts : Int) + 1))) g { m with puts := m.puts + 1 } a c S := by
    rw [show (m.puts : Int) + 1 = ((m.puts + 1 : Nat) : Int) by omega]
    exact h2.cell 2 _ { m with puts := m.puts + 1 } rfl rfl rfl hpu h.wi
  have k3 : Ch S w (w2.setCell ⟨g, 2, none⟩ (.int .i64 ((m.puts : Int) + 1))) := (Ch.of_below g2).setCell (p := ⟨g, 2, none⟩) (.inl h.sg) _
  have b3 : (w2.setCell ⟨g, 2, none⟩ (.int .i64 ((m.puts : Int) + 1))).heap[w.heap.size]? = some (.cells (frV F fa fc) 35 (0, 0)) := (Below.heap_setCell _ _ _ _ (by show w.heap.size ≠ g; omega)).trans b2
  clear q1 q3 h1 g1 x0 x1 x2 x3 x4 hm hRi
  go_wp2
  clear q2 hz h2 g2 b2
  generalize w2.setCell ⟨g, 2, none⟩ (.int .i64 ((m.puts : Int) + 1)) = w3 at *
  have hR3 := (hR _ k3).drew
  obtain ⟨x0, x1, x2, x3, x4⟩ := bx5 b3
  have q2 : w3.cell? ⟨g, 2, none⟩ = some (.int .i64 ((m.puts : Int) + 1)) := by rw [(bx6 h3.box).2.2.1, show (m.puts : Int) + 1 = ((m.puts + 1 : Nat) : Int) by omega]
  have q3 := (bx6 h3.box).2.2.2.1
  have hd3 : Below w3.heap.size w3 w3.drew := (Below.refl _ _).drew
  have hn9 : m.ws.length + 1 ≤ 1000000000 := by have := h.rm; have := HL.out; omega
  have hBw : B ≤ w3.heap.size := by have := h.hB; have := k3.size; omega
  clear he hw0 h0 hb gg
  have HS : Below w3.heap.size w3 w3.drew := hd3
  have hq2 : ∀ w', Below w3.heap.size w3 w' → w'.cell? ⟨g, 2, none⟩ = some (.int .i64 ((m.puts : Int) + 1)) := fun w' hw => (hw.cell (p := ⟨g, 2, none⟩) h3.lt).trans q2
  have hq3 : ∀ w', Below w3.heap.size w3 w' → w'.cell? ⟨g, 3, none⟩ = some (.slice a m.ws.length c) := fun w' hw => (hw.cell (p := ⟨g, 3, none⟩) h3.lt).trans q3
  clear q2 q3 x0 x1 x2 x3 x4
  refine Rest.begin (S := fun w' => Below w3.heap.size w3 w') (X := [6, 11, 13]) (by kernel_rfl) ?_
  change Rest _ _ _ _ _ _ _ _ _ w3.drew
  refine Rest.take (i := 0) (v := .pointer (some ⟨g, 0, none⟩)) rfl (by kernel_rfl) (by kernel_rfl) (by kernel_rfl) (by kernel_rfl) (fun _ _ _ h => h) (.inl HS) (Or.inl ⟨by simp [Region.wanted], ?_⟩) ?_
  · intro w; go_simp
  refine Rest.take (i := 1) (v := .pointer (some ⟨g, 0, none⟩)) rfl (by kernel_rfl) (by kernel_rfl) (by kernel_rfl) (by kernel_rfl) (fun _ _ _ h => h) (.inl HS) (Or.inl ⟨by simp [Region.wanted], ?_⟩) ?_
  · intro w; go_simp
  refine Rest.take (i := 2) (v := .pointer (some ⟨g, 0, none⟩)) rfl (by kernel_rfl) (by kernel_rfl) (by kernel_rfl) (by kernel_rfl) (fun _ _ _ h => h) (.inl HS) (Or.inl ⟨by simp [Region.wanted], ?_⟩) ?_
  · intro w; go_simp
  refine Rest.take (i := 3) (v := .pointer (some ⟨g, 3, none⟩)) rfl (by kernel_rfl) (by kernel_rfl) (by kernel_rfl) (by kernel_rfl) (fun _ _ _ h => h) (.inl HS) (Or.inl ⟨by simp [Region.wanted], ?_⟩) ?_
  · intro w; go_simp
  refine Rest.takeS (i := 4) (v := .slice a m.ws.length c) rfl (by kernel_rfl) (by kernel_rfl) (by kernel_rfl) (by kernel_rfl) (fun _ _ _ h => h) HS (.inl ⟨by simp [Region.wanted], ?_⟩) ?_
  · intro w hw; have q3 := hq3 w hw; go_simp
  refine Rest.takeS (i := 5) (v := .agg (frV F fa fc)) rfl (by kernel_rfl) (by kernel_rfl) (by kernel_rfl) (by kernel_rfl) (fun _ _ _ h => h) HS (yields_loadR rowF (by simp [Region.wanted]) _ rfl w.heap.size (by simp [Act.eval, Act.put]) _ rfl (fun w' hw => ⟨_, _, bx_below b3 hw⟩)) ?_
  refine Rest.take (i := 7) (v := .pointer (some ⟨g, 0, none⟩)) rfl (by kernel_rfl) (by kernel_rfl) (by kernel_rfl) (by kernel_rfl) (fun _ _ _ h => h) (.inl HS) (Or.inl ⟨by simp [Region.wanted], ?_⟩) ?_
  · intro w; go_simp
  refine Rest.take (i := 8) (v := .pointer (some ⟨g, 0, none⟩)) rfl (by kernel_rfl) (by kernel_rfl) (by kernel_rfl) (by kernel_rfl) (fun _ _ _ h => h) (.inl HS) (Or.inl ⟨by simp [Region.wanted], ?_⟩) ?_
  · intro w; go_simp
  refine Rest.take (i := 9) (v := .pointer (some ⟨g, 2, none⟩)) rfl (by kernel_rfl) (by kernel_rfl) (by kernel_rfl) (by kernel_rfl) (fun _ _ _ h => h) (.inl HS) (Or.inl ⟨by simp [Region.wanted], ?_⟩) ?_
  · intro w; go_simp
  refine Rest.takeS (i := 10) (v := .int .i64 ((m.puts : Int) + 1)) rfl (by kernel_rfl) (by kernel_rfl) (by kernel_rfl) (by kernel_rfl) (fun _ _ _ h => h) HS (.inl ⟨by simp [Region.wanted], ?_⟩) ?_
  · intro w hw; have q2 := hq2 w hw; go_simp
  refine Rest.one (i := 6) (by kernel_rfl) rfl (fun K hK => ?_)
  refine draw_callF 79 (by kernel_rfl) (by simp [Region.wanted]) _ _ _ rfl (by simp [Act.eval]) #[.agg (frV F fa fc)] (by simp [Act.eval, Act.put]) _ (cloneFr_any _ _ _ _ _ _ _ _ _ hR3 hlen) ?_
  rintro e w5 ⟨da, dc, rfl, o5, g5⟩
  refine ⟨_, rfl, ?_⟩
  have g35 : Below w3.heap.size w3 w5 := hd3.trans g5
  have h5 := h3.below g35
  have z5 := g35.size
  refine hK _ _ ⟨.inl g35, ?_⟩; clear hK K
  refine Rest.one (i := 11) (by kernel_rfl) rfl (fun K hK => ?_)
  rw [if_pos (by simp [Region.wanted])]
  go_simp
  refine hK _ _ ⟨.inl g35, ?_⟩; clear hK K
  refine Rest.one (i := 12) (by kernel_rfl) rfl (fun K hK => ?_)
  rw [if_pos (by simp [Region.wanted])]
  go_simp
  refine hK _ _ ⟨.inl (g35.alloc z5 _), ?_⟩; clear hK K
  have hB5 : B ≤ (w5.alloc (.cells #[.int .u32 (F.id : Int), .bool F.ext, .bool F.rem, .int .u8 (F.dlc : Int), .slice da F.data.length dc, .int .i64 ((m.puts : Int) + 1)] 164)).heap.size := by rw [heap_size_alloc]; omega
  have hown5 := h5.row.alloc (.cells #[.int .u32 (F.id : Int), .bool F.ext, .bool F.rem, .int .u8 (F.dlc : Int), .slice da F.data.length dc, .int .i64 ((m.puts : Int) + 1)] 164)
  have hsrc : RK enW 6 (w5.alloc (.cells #[.int .u32 (F.id : Int), .bool F.ext, .bool F.rem, .int .u8 (F.dlc : Int), .slice da F.data.length dc, .int .i64 ((m.puts : Int) + 1)] 164)) (some ⟨w5.heap.size, 0, none⟩) 1 1 [((F, (da, dc)), m.puts + 1)] := (ok_lit enW_k 164 0 w5 [((F, (da, dc)), m.puts + 1)] _ 1 (by simp [enW]) rfl (by omega) (Nat.zero_le _)).rk enW_k
  refine Rest.one (i := 13) (by kernel_rfl) rfl (fun K hK => ?_)
  refine step_appgK elW enW_k rfl (.tmp 36) (.tmp 44) rfl rfl hown5 rfl hsrc (by omega) hn9 (by omega) hB5 ?_
  rintro w7 a7 c7 o7 g7 k7 s7
  refine hK _ _ ⟨.inr (thru_of (by kernel_rfl)), Rest.of_any _ _ _ _ (thru_of (by kernel_rfl)) ?_⟩; clear hK K
  have hfin := put_fin h3 k3.size hgB h.sL k3 hi hd hlen HL.out hpu g35 (o5.mono (by simp)) o7 g7 k7 s7
  have hng7 := (k7 g (by have := h5.lt; rw [heap_size_alloc]; omega) h3.ng)
  have hb7 : w7.heap[g]? = some (.cells (mlV g { m with puts := m.puts + 1 } a c) 138 (0, 0)) := hng7.1.trans (h5.alloc _).box
  have hz7 := bx_thaw hb7
  have q37 := (bx6 hb7).2.2.2.1
  have q27 : w7.cell? ⟨g, 2, none⟩ = some (.int .i64 ((m.puts : Int) + 1)) := by rw [(bx6 hb7).2.2.1, show (m.puts : Int) + 1 = ((m.puts + 1 : Nat) : Int) by omega]
  refine wpAny_take (i := 14) (v := .pointer (some ⟨g, 0, none⟩)) rfl (by kernel_rfl) (by kernel_rfl) (by kernel_rfl) (fun _ _ _ h => h) (Or.inl ⟨by simp [Region.wanted], ?_⟩) ?_
  · intro w; go_simp
  refine wpAny_take (i := 15) (v := .pointer (some ⟨g, 3, none⟩)) rfl (by kernel_rfl) (by kernel_rfl) (by kernel_rfl) (fun _ _ _ h => h) (Or.inl ⟨by simp [Region.wanted], ?_⟩) ?_
  · intro w; go_simp
  refine wpAny_ready (rs := [16]) (by kernel_rfl) (by simp) ?_
  refine AllReady.cons rfl (fun K hK => ?_) AllReady.nil
  rw [if_pos (by simp [Region.wanted])]
  go_simp
  refine hK _ _ ?_; clear hK K
  refine wpAny_done (by kernel_rfl) ?_ _
  clear HS hq2 hq3 h3 h5 g35 o5 o7 g7 k7 s7 hown5 hsrc
  go_wp2
  go_ret2
  exact ⟨_, _, _, _, _, rfl, hfin.1, hfin.2, fun b hb => hb.imp id fun x => x.1⟩
end
end Go.Proofs.YtajdbimdiodalaaGreat

namespace Go.Proofs.YtajdbimdiodalaaGreat
open Go.RowKit Go.Sort
set_option linter.unusedVariables false

section
variable {B : Nat} {w w1 w2 w3 : World} {g : Nat} {m m1 m2 : Ml} {a : Option Addr} {c : Nat} {S : Nat → Prop}

/-- A new mail. -/
def neM (room : Nat) : Ml := ⟨room, 0, [], 0, false⟩
set_option maxRecDepth 100000 in
set_option maxHeartbeats 1000000 in
theorem mlNew_any (w : World) (room : Nat) (h1 : 1 ≤ room) (h2 : room ≤ 256) :
    Calls Tryz.prog 35 #[.int .i64 (room : Int)] w fun e w' => ∃ g, e = .returned (.tuple #[.pointer (some ⟨g, 0, none⟩), .int .i64 0]) ∧ MlO w.heap.size w' g (neM room) none 0 (fun b => b = g) ∧ w.heap.size ≤ g ∧ Below w.heap.size w w' := by
  have i1 : ¬ (room : Int) < 1 := by omega
  have i2 : ¬ (256 : Int) < (room : Int) := by omega
  go_enter Tryz.func35, Tryz.ntmps35
  go_wp2
  go_ret2
  exact ⟨w.heap.size, rfl, ⟨heap_alloc_new w _, OK.nil _ _ _ _ _, fun p hp => (by cases hp), Nat.le_refl _, rfl, fun q hq => (by cases hq), fun p hp => (by cases hp), fun b hb => (by subst hb; exact Nat.le_refl _), NB.nil _, fun p hp => (by cases hp), by show room ≤ 1000; omega, Nat.zero_le _, by show 0 < _; omega, by show 0 < _; omega, fun b hb => (by subst hb; simp)⟩, Nat.le_refl _, bnew0 w _⟩

set_option maxRecDepth 100000 in
set_option maxHeartbeats 1000000 in
theorem abort_wire (h : MlO B w g m a c S) (hN : hasW (m.wire : Int) m.ws = true) :
    Calls Tryz.prog 94 #[.pointer (some ⟨g, 0, none⟩), .int .i64 (m.wire : Int)] w fun e w' => e = .returned (.tuple #[.bool false, .int .i64 0]) ∧ Mle B w g { m with ab := true } a c S w' := by
  have hm := mlMade_any h
  have hw := waits_any h (m.wire : Int)
  rw [hN] at hw
  clear hN
  go_enter Tryz.func94, Tryz.ntmps94
  go_wp2_with (first
    | (go_at_call 76; (refine hm.mono ?_); rintro e w1 ⟨rfl, rfl⟩)
    | (go_at_call 50; (refine hw.mono ?_); rintro e w1 ⟨rfl, g1⟩
       have h1 := h.below g1
       have q4 := (bx6 h1.box).2.2.2.2.1
       have q5 := (bx6 h1.box).2.2.2.2.2
       have hz := h1.thaw
       have he : ((m.wire : Int) == (m.wire : Int)) = true := by simp))
  go_ret2
  exact ⟨rfl, h1.cell 5 (.bool true) { m with ab := true } rfl rfl rfl h.pu h.wi, ((Ch.refl S w).call g1).setCell (p := ⟨g, 5, none⟩) (.inl h.sg) _⟩

set_option maxRecDepth 100000 in
set_option maxHeartbeats 1000000 in
theorem abort_yes (h : MlO B w g m a c S) (N : Nat) (hN : hasW (N : Int) m.ws = true) (hne : N ≠ m.wire) :
    Calls Tryz.prog 94 #[.pointer (some ⟨g, 0, none⟩), .int .i64 (N : Int)] w fun e w' => e = .returned (.tuple #[.bool true, .int .i64 0]) ∧ Mle B w g (rmM N m) a c S w' := by
  have hm := mlMade_any h
  have hw := waits_any h (N : Int)
  rw [hN] at hw
  have hx : ∃ p ∈ m.ws, p.2 = N := by obtain ⟨p, h1, h2⟩ := hasW_yes hN; exact ⟨p, h1, by omega⟩
  have he : ((N : Int) == (m.wire : Int)) = false := by rw [beq_eq_false_iff_ne]; omega
  clear hN hne
  go_enter Tryz.func94, Tryz.ntmps94
  go_wp2_with (first
    | (go_at_call 76; (refine hm.mono ?_); rintro e w1 ⟨rfl, rfl⟩)
    | (go_at_call 50; (refine hw.mono ?_); rintro e w1 ⟨rfl, g1⟩
       have h1 := h.below g1
       have q4 := (bx6 h1.box).2.2.2.2.1)
    | (go_at_call 89; (refine (remove_any h1 N hx).mono ?_); rintro e w2 ⟨rfl, o2, k2⟩))
  go_ret2
  exact ⟨rfl, o2, ((Ch.refl S w).call g1).trans k2 fun b hb => .inl hb⟩
end
end Go.Proofs.YtajdbimdiodalaaGreat

namespace Go.Proofs.YtajdbimdiodalaaGreat
open Go.RowKit Go.Sort
set_option linter.unusedVariables false

theorem results_row_mid {P : Program} {T : TypeId} {n : Nat} (hT : RowT P T n) {fn : Func} {p q r : Tmp} (h : fn.results = #[.tmp p, .cell q T, .tmp r]) (tmps : Array Value) (w : World) (g : Nat) {t : TypeId} {cs : Array Value} {fr : Nat × Nat} {u v : Value}
    (hp : tmps.getD p undef = u) (hq : tmps.getD q undef = .pointer (some ⟨g, 0, none⟩)) (hr : tmps.getD r undef = v) (hg : w.heap[g]? = some (.cells cs t fr)) (hn : cs.size = n) :
    (results fn tmps).run P w = .ok (.tuple #[u, .agg cs, v]) w := by
  obtain ⟨d, hu, hd⟩ := hT.und
  have hp' : tmps[p]?.getD undef = u := by simpa using hp
  have hq' : tmps[q]?.getD undef = .pointer (some ⟨g, 0, none⟩) := by simpa using hq
  have hr' : tmps[r]?.getD undef = v := by simpa using hr
  have e1 := run_loadVar_row (P := P) w g t T cs fr d hg hu (by cases d <;> simp_all) (by rw [hT.size, hn])
  simp [results, h, hp', hq', hr', asAddr, e1]

abbrev frZr : Array Value := #[.int .u32 0, .bool false, .bool false, .int .u8 0, .slice none 0 0]
theorem set5b_same {w1 : World} {g : Nat} {T : TypeId} {u0 u1 u2 u3 u4 : Value} (h : w1.heap[g]? = some (.cells #[u0, u1, u2, u3, u4] T (0, 0))) (v0 v1 v2 v3 v4 : Value) :
    (((((w1.setCell ⟨g, 0, none⟩ v0).setCell ⟨g, 1, none⟩ v1).setCell ⟨g, 2, none⟩ v2).setCell ⟨g, 3, none⟩ v3).setCell ⟨g, 4, none⟩ v4).heap[g]? = some (.cells #[v0, v1, v2, v3, v4] T (0, 0)) :=
  heap_setCell_same _ g 4 _ _ _ (heap_setCell_same _ g 3 _ _ _ (heap_setCell_same _ g 2 _ _ _ (heap_setCell_same _ g 1 _ _ _ (heap_setCell_same _ g 0 _ _ _ h))))
theorem set5b_other {w1 : World} {g k : Nat} (h : k ≠ g) (v0 v1 v2 v3 v4 : Value) :
    (((((w1.setCell ⟨g, 0, none⟩ v0).setCell ⟨g, 1, none⟩ v1).setCell ⟨g, 2, none⟩ v2).setCell ⟨g, 3, none⟩ v3).setCell ⟨g, 4, none⟩ v4).heap[k]? = w1.heap[k]? := by
  rw [Below.heap_setCell _ _ _ _ h, Below.heap_setCell _ _ _ _ h, Below.heap_setCell _ _ _ _ h, Below.heap_setCell _ _ _ _ h, Below.heap_setCell _ _ _ _ h]
theorem set5b_below {B : Nat} {w w1 : World} {g : Nat} (h : Below B w w1) (hg : B ≤ g) (v0 v1 v2 v3 v4 : Value) :
    Below B w (((((w1.setCell ⟨g, 0, none⟩ v0).setCell ⟨g, 1, none⟩ v1).setCell ⟨g, 2, none⟩ v2).setCell ⟨g, 3, none⟩ v3).setCell ⟨g, 4, none⟩ v4) :=
  ((((h.setCell hg _).setCell hg _).setCell hg _).setCell hg _).setCell hg _

section
variable {B : Nat} {w w1 w2 w3 : World} {g : Nat} {m m1 m2 : Ml} {a : Option Addr} {c : Nat} {S : Nat → Prop}

set_option maxRecDepth 100000 in
set_option maxHeartbeats 4000000 in
theorem best_any (h : MlO B w g m a c S) (p : Wt) (hp : beM m = some p) :
    Calls Tryz.prog 85 #[.pointer (some ⟨g, 0, none⟩)] w fun e w' => ∃ da dc, e = .returned (.tuple #[.int .i64 (p.2 : Int), .agg (frV p.1.1 da dc), .bool true]) ∧ OL bv 5 w.heap.size w' da p.1.1.data.length dc p.1.1.data ∧ Below w.heap.size w w' := by
  obtain ⟨w0, hw0, h0, hb, gg⟩ : ∃ w0, Hid (w.alloc (.cells frZr 35) = w0) ∧ MlO B w0 g m a c S ∧ w0.heap[w.heap.size]? = some (.cells frZr 35 (0, 0)) ∧ Below w.heap.size w w0 := ⟨_, rfl, h.alloc _, heap_alloc_new w _, bnew0 w _⟩
  have q3 := (bx6 h0.box).2.2.2.1
  have hm := mlMade_any h0
  have hf := first_any h0 p hp
  have hmem := beM_num hp
  have hl := List.length_pos_of_mem hmem
  have hne : ((m.ws.length : Int) == 0) = false := by rw [beq_eq_false_iff_ne]; omega
  have hwt := h.wt p hmem
  have hdl := hwt.len
  have z0 : w.heap.size + 1 ≤ w0.heap.size := by have := bx_lt hb; omega
  clear hp hmem hl
  go_enter Tryz.func85, Tryz.ntmps85
  go_wp2_with (first
    | (go_at_call 76; rw [hw0.out]; (refine hm.mono ?_); rintro e w1 ⟨rfl, rfl⟩)
    | (go_at_call 116; (refine hf.mono ?_); rintro e w1 ⟨rfl, g1⟩
       have b1 := bx_alloc (.cells wtZ 164) (bx_below hb g1)
       have c1 := heap_alloc_new w1 (.cells wtZ 164)
       have z1 := g1.size)
    | (with_reducible refine wpList_storeR rowW rfl _ _ rfl _ _ rfl rfl c1 rfl rfl (wt_ones _) ?_))
  have c2 : ((w1.alloc (.cells wtZ 164)).setRow w1.heap.size (wtV p)).heap[w1.heap.size]? = some (.cells (wtV p) 164 (0, 0)) := setRow_heap _ _ _ _ _ _ c1
  have b2 : ((w1.alloc (.cells wtZ 164)).setRow w1.heap.size (wtV p)).heap[w.heap.size]? = some (.cells frZr 35 (0, 0)) := (setRow_other _ _ _ _ (by omega)).trans b1
  have g2 : Below w.heap.size w ((w1.alloc (.cells wtZ 164)).setRow w1.heap.size (wtV p)) := below_setRow (bnew (bstep gg g1) _) (by omega) _
  have z2 : w.heap.size + 1 ≤ ((w1.alloc (.cells wtZ 164)).setRow w1.heap.size (wtV p)).heap.size := by simp; omega
  have hK : w.heap.size < w1.heap.size := by omega
  clear b1 c1 q3 hm hf hw0 h0 hb gg g1 z0 z1
  generalize (w1.alloc (.cells wtZ 164)).setRow w1.heap.size (wtV p) = w2 at *
  obtain ⟨x0, x1, x2, x3, x4, x5⟩ := bx6 c2
  have hrd := (hwt.dat.below g2).drew
  have hd2 : Below w2.heap.size w2 w2.drew := (Below.refl _ _).drew
  go_region_law (first
    | (go_simp; go_at_call 79; refine (cloneFr_any _ _ _ _ _ _ _ _ _ hrd hdl).mono ?_; rintro e w5 ⟨da, dc, rfl, o5, g5⟩
       have g25 : Below w2.heap.size w2 w5 := hd2.trans g5
       have c5 := bx_below c2 g25
       have b5 := bx_below b2 g25
       obtain ⟨y0, y1, y2, y3, y4, y5⟩ := bx6 c5
       obtain ⟨u0, u1, u2, u3, u4⟩ := bx5 b5
       have hf5 := bx_thaw b5
       have gg5 := bstep g2 g25
       have hne5 : w1.heap.size ≠ w.heap.size := by omega
       have o6 := (o5.mono (show w.heap.size + 1 ≤ _ from z2)).kept (w' := (((((w5.setCell ⟨w.heap.size, 0, none⟩ (.int .u32 (p.1.1.id : Int))).setCell ⟨w.heap.size, 1, none⟩ (.bool p.1.1.ext)).setCell ⟨w.heap.size, 2, none⟩ (.bool p.1.1.rem)).setCell ⟨w.heap.size, 3, none⟩ (.int .u8 (p.1.1.dlc : Int))).setCell ⟨w.heap.size, 4, none⟩ (.slice da p.1.1.data.length dc))) (fun k hk => set5b_other (by have := (o5.ltB hk).2; dsimp only at this; have := z2; have : w2.drew.heap.size = w2.heap.size := rfl; omega) _ _ _ _ _)))
  all_goals
    go_wp2
    exact bodyPost_ret (v := .tuple #[.int .i64 (p.2 : Int), .agg (frV p.1.1 da dc), .bool true]) (results_row_mid rowF rfl _ _ _ rfl rfl rfl (set5b_same b5 _ _ _ _ _) rfl) rfl ⟨da, dc, rfl, o6.mono (by omega), set5b_below gg5 (Nat.le_refl _) _ _ _ _ _⟩
end
end Go.Proofs.YtajdbimdiodalaaGreat

namespace Go.Proofs.YtajdbimdiodalaaGreat
open Go.RowKit Go.Sort
set_option linter.unusedVariables false

end Go.Proofs.YtajdbimdiodalaaGreat

namespace Go.Proofs.YtajdbimdiodalaaGreat
set_option linter.unusedVariables false

/-- A filter. -/
structure Fi where
  ext : Bool
  mask : Nat
  mat : Nat
  deriving DecidableEq

def topF (e : Bool) : Nat := if e = true then 536870911 else 2047
/-- Its numbers are numbers of 32 bits. -/
def Fi.Ok (x : Fi) : Prop := x.mask < 4294967296 ∧ x.mat < 4294967296
instance (x : Fi) : Decidable x.Ok := inferInstanceAs (Decidable (_ ∧ _))
def rightF (x : Fi) : Bool := decide (x.mask ≤ topF x.ext) && decide (x.mat &&& (4294967295 - x.mask) = 0)
def letsF (id : Nat) (e : Bool) (x : Fi) : Bool := rightF x && (x.ext == e) && decide (id &&& x.mask = x.mat)
def anyF (id : Nat) (e : Bool) (l : List Fi) : Bool := l.any (letsF id e)
def passF (id : Nat) (e : Bool) (l : List Fi) : Bool := decide (l.length = 0) || anyF id e l
/-- The first one that lets it in, or -1. -/
def fiF (id : Nat) (e : Bool) (l : List Fi) : Int := if anyF id e l = true then (l.findIdx (letsF id e) : Int) else -1

theorem topF_lt (e : Bool) : topF e < 4294967296 := by cases e <;> decide

theorem anyF_take {id : Nat} {e : Bool} {l : List Fi} {k : Nat} {x : Fi} (hx : l[k]? = some x) : anyF id e (l.take (k + 1)) = (anyF id e (l.take k) || letsF id e x) := by
  rw [List.take_add_one, hx]; simp [anyF]
theorem fiF_at {id : Nat} {e : Bool} {l : List Fi} {k : Nat} {x : Fi} (hx : l[k]? = some x) (h : letsF id e x = true) (h0 : anyF id e (l.take k) = false) : fiF id e l = (k : Int) := by
  have hk : k < l.length := (List.getElem?_eq_some_iff.1 hx).1
  have ha : anyF id e l = true := by
    rw [anyF, List.any_eq_true]
    exact ⟨x, List.mem_of_getElem? hx, h⟩
  rw [fiF, if_pos ha]
  congr 1
  have e1 : l = l.take k ++ x :: l.drop (k + 1) := by
    have := (List.getElem?_eq_some_iff.1 hx).2
    rw [← this, ← List.drop_eq_getElem_cons hk, List.take_append_drop]
  have h0' : ∀ y ∈ l.take k, letsF id e y = false := by
    rw [anyF, List.any_eq_false] at h0
    exact fun y hy => by simpa using h0 y hy
  have hlk : (l.take k).length = k := by rw [List.length_take]; omega
  rw [e1, List.findIdx_append, List.findIdx_eq_length_of_false h0', hlk]
  simp [List.findIdx_cons, h]
theorem fiF_no {id : Nat} {e : Bool} {l : List Fi} (h : anyF id e l = false) : fiF id e l = -1 := by rw [fiF, h]; rfl
theorem fiF_ge (id : Nat) (e : Bool) (l : List Fi) : decide ((0 : Int) ≤ fiF id e l) = anyF id e l := by
  unfold fiF
  cases anyF id e l <;> simp
end Go.Proofs.YtajdbimdiodalaaGreat

namespace Go.Proofs.YtajdbimdiodalaaGreat
open Go.RowKit Go.Sort
set_option linter.unusedVariables false

theorem tFi : ElK Tryz.prog 22 69 3 (.agg #[.bool false, .int .u32 0, .int .u32 0]) 12 := ⟨by kernel_rfl, by kernel_rfl, by kernel_rfl, by kernel_rfl, by kernel_rfl, by decide⟩
theorem rowFi : RowT Tryz.prog 69 3 := rowT_of (by kernel_rfl) (by kernel_rfl)

/-- A filter's cells. -/
abbrev fiV (x : Fi) : Array Value := #[.bool x.ext, .int .u32 (x.mask : Int), .int .u32 (x.mat : Int)]
def fiE (x : Fi) : List Value := [.bool x.ext, .int .u32 (x.mask : Int), .int .u32 (x.mat : Int)]
theorem eFi : EnK fiE 3 := ⟨fun _ => rfl, fun x v hv => by simp [fiE] at hv; rcases hv with rfl | rfl | rfl <;> rfl⟩

theorem bx3F {w : World} {g : Nat} {E : TypeId} {v0 v1 v2 : Value} (h : w.heap[g]? = some (.cells #[v0, v1, v2] E (0, 0))) :
    w.cell? ⟨g, 0, none⟩ = some v0 ∧ w.cell? ⟨g, 1, none⟩ = some v1 ∧ w.cell? ⟨g, 2, none⟩ = some v2 :=
  ⟨by rw [cell_of_row w g 0 _ _ _ h]; rfl, by rw [cell_of_row w g 1 _ _ _ h]; rfl, by rw [cell_of_row w g 2 _ _ _ h]; rfl⟩

theorem greatest_any (e : Bool) (w : World) : Calls Tryz.prog 54 #[.bool e] w fun r w' => r = .returned (.int .u32 (topF e : Int)) ∧ w = w' := by
  cases e
  · go_enter Tryz.func54, Tryz.ntmps54
    go_wp2
    go_ret
    exact ⟨rfl, rfl⟩
  · go_enter Tryz.func54, Tryz.ntmps54
    go_wp2
    go_ret
    exact ⟨rfl, rfl⟩

/-- One box behind a call's begin: the world behind it under a name. -/
theorem boxed11 (w : World) (E : TypeId) (cs : Array Value) : ∃ w0, Hid (w.alloc (.cells cs E) = w0) ∧ w0.heap[w.heap.size]? = some (.cells cs E (0, 0)) ∧ Below w.heap.size w w0 :=
  ⟨_, hid rfl, heap_alloc_new w _, bnew0 w _⟩
theorem bx3r {w : World} {g : Nat} {E : TypeId} {v0 v1 v2 : Value} (h : w.heap[g]? = some (.cells #[v0, v1, v2] E (0, 0))) :
    (∀ d os, (grow (redrawn w d) os).cell? ⟨g, 0, none⟩ = some v0) ∧ (∀ d os, (grow (redrawn w d) os).cell? ⟨g, 1, none⟩ = some v1) ∧ (∀ d os, (grow (redrawn w d) os).cell? ⟨g, 2, none⟩ = some v2) := by
  obtain ⟨k0, k1, k2⟩ := bx3F h
  exact ⟨fun d os => cell_regrown k0 d os, fun d os => cell_regrown k1 d os, fun d os => cell_regrown k2 d os⟩

theorem fiRight_any (x : Fi) (hx : x.Ok) (w : World) : Calls Tryz.prog 21 #[.agg (fiV x)] w fun r w' => r = .returned (.bool (rightF x)) ∧ Below w.heap.size w w' := by
  obtain ⟨e, m, a⟩ := x
  obtain ⟨h1, h2⟩ := hx
  simp only at h1 h2
  have hA := u32_andNot_nat a m h2 h1
  have ht := topF_lt e
  show Calls _ _ #[.agg #[.bool e, .int .u32 (m : Int), .int .u32 (a : Int)]] _ _
  have hr : ∀ u, a &&& (4294967295 - m) = u → rightF ⟨e, m, a⟩ = (decide (m ≤ topF e) && decide (u = 0)) := fun u hu => by rw [rightF, hu]
  generalize hu : a &&& (4294967295 - m) = u at hA
  rw [hr u hu]
  clear hr hu
  obtain ⟨w0, hw0, hbx, gg0⟩ := boxed11 w 69 #[.bool e, .int .u32 (m : Int), .int .u32 (a : Int)]
  obtain ⟨x0, x1, x2⟩ := bx3r hbx
  have kG : ∀ d os, Calls Tryz.prog 54 #[.bool e] (grow (redrawn w0 d) os) fun r w'' => r = .returned (.int .u32 (topF e : Int)) ∧ ∃ r : Regrown, w'' = grow (redrawn w0 r.d) r.os := fun d os =>
    Calls.regrown_of ((greatest_any e _).mono fun e w' he => ⟨he.1, by rw [he.2]; exact Below.refl _ _⟩)
  generalize topF e = t at *
  have d3 : ((u : Int) == 0) = decide (u = 0) := by by_cases h : u = 0 <;> simp [h]
  by_cases hm : m ≤ t
  · have d1 : decide ((m : Int) ≤ (t : Int)) = true := by simp; omega
    have d2 : decide (m ≤ t) = true := by simp; omega
    rw [d2]
    clear hm
    go_enter Tryz.func21, Tryz.ntmps21
    go_wp2
    rw [hw0.out]
    refine wp_region_quiet_below (by kernel_rfl) (by kernel_rfl) ?_
    repeat (go_big_quiet_step (first | (go_at_call 54; with_reducible exact kG _ _)))
    refine wpQuiet_nil ?_
    intro w9 hw9
    have g9 : Below w0.heap.size w0 w9 := by obtain ⟨p9, rfl⟩ := hw9; exact below_regrown _ _ _
    clear hw9 kG x0 x1 x2
    go_wp2
    go_ret
    exact ⟨ret_bool (by rw [← d3]; rfl), bstep gg0 g9⟩
  · have d1 : decide ((m : Int) ≤ (t : Int)) = false := by simp; omega
    have d2 : decide (m ≤ t) = false := by simp; omega
    rw [d2]
    clear hm
    go_enter Tryz.func21, Tryz.ntmps21
    go_wp2
    rw [hw0.out]
    refine wp_region_quiet_below (by kernel_rfl) (by kernel_rfl) ?_
    repeat (go_big_quiet_step (first | (go_at_call 54; with_reducible exact kG _ _)))
    refine wpQuiet_nil ?_
    intro w9 hw9
    have g9 : Below w0.heap.size w0 w9 := by obtain ⟨p9, rfl⟩ := hw9; exact below_regrown _ _ _
    clear hw9 kG x0 x1 x2
    go_wp2
    go_ret
    exact ⟨rfl, bstep gg0 g9⟩

/-- What lets a frame in, as it is called: the frame lies in a box. -/
theorem lets_any (w : World) (x : Fi) (hx : x.Ok) (b id : Nat) (e r : Bool) (dl : Value) (cd : Value) (hid' : id < 4294967296) (hb : w.heap[b]? = some (.cells #[.int .u32 (id : Int), .bool e, .bool r, dl, cd] 35 (0, 0))) :
    Calls Tryz.prog 87 #[.agg (fiV x), .pointer (some ⟨b, 0, none⟩)] w fun r w' => r = .returned (.bool (letsF id e x)) ∧ Below w.heap.size w w' := by
  have kR := hid (fun w => fiRight_any x hx w)
  obtain ⟨e', m, a⟩ := x
  obtain ⟨h1, h2⟩ := hx
  simp only at h1 h2
  have hA := (u32_bits id m hid' h1).1
  have hl : ∀ u, id &&& m = u → letsF id e ⟨e', m, a⟩ = (rightF ⟨e', m, a⟩ && (e' == e) && decide (u = a)) := fun u hu => by rw [letsF, hu]
  generalize hu : id &&& m = u at hA
  rw [hl u hu]
  clear hl hu
  show Calls _ _ #[.agg #[.bool e', .int .u32 (m : Int), .int .u32 (a : Int)], _] _ _
  have kR' : ∀ w, Calls Tryz.prog 21 #[.agg #[.bool e', .int .u32 (m : Int), .int .u32 (a : Int)]] w fun r w' => r = .returned (.bool (rightF ⟨e', m, a⟩)) ∧ Below w.heap.size w w' := kR.out
  clear kR
  generalize rightF ⟨e', m, a⟩ = q at *
  have HR := hid kR'; clear kR'
  have hlt := bx_lt hb
  have hne : b ≠ w.heap.size := by omega
  have hbx := heap_alloc_new w (.cells #[.bool e', .int .u32 (m : Int), .int .u32 (a : Int)] 69)
  have gg0 := bnew0 w (.cells #[.bool e', .int .u32 (m : Int), .int .u32 (a : Int)] 69)
  have hb0 := bx_below hb gg0
  have d3 : ((u : Int) == (a : Int)) = decide (u = a) := by by_cases h : u = a <;> simp [h]; omega
  clear hb
  go_enter Tryz.func87, Tryz.ntmps87
  cases q
  · go_wp2_with (first
      | (with_reducible refine wpList_loadR rowFi rfl _ rfl _ rfl hbx rfl ?_)
      | (go_at_call 21; (with_reducible refine (HR.out _).mono ?_); rintro r w9 ⟨rfl, g9⟩))
    go_ret
    exact ⟨rfl, bstep gg0 g9⟩
  · cases he : (e' == e)
    · go_wp2_with (first
        | (with_reducible refine wpList_loadR rowFi rfl _ rfl _ rfl hbx rfl ?_)
        | (go_at_call 21; (with_reducible refine (HR.out _).mono ?_); rintro r w9 ⟨rfl, g9⟩; (obtain ⟨y0, y1, y2⟩ := bx3F (bx_below hbx g9)); (obtain ⟨z0, z1, z2, z3, z4⟩ := bx5 (bx_below hb0 g9))))
      go_ret
      exact ⟨rfl, bstep gg0 g9⟩
    · go_wp2_with (first
        | (with_reducible refine wpList_loadR rowFi rfl _ rfl _ rfl hbx rfl ?_)
        | (go_at_call 21; (with_reducible refine (HR.out _).mono ?_); rintro r w9 ⟨rfl, g9⟩; (obtain ⟨y0, y1, y2⟩ := bx3F (bx_below hbx g9)); (obtain ⟨z0, z1, z2, z3, z4⟩ := bx5 (bx_below hb0 g9))))
      go_ret
      exact ⟨ret_bool (by rw [← d3]; rfl), bstep gg0 g9⟩
end Go.Proofs.YtajdbimdiodalaaGreat

namespace Go.Proofs.YtajdbimdiodalaaGreat
open Go.RowKit Go.Sort
set_option linter.unusedVariables false

/-- A frame's cells, of which a filter asks two. -/
abbrev fmV (id : Nat) (e r : Bool) (dl cd : Value) : Array Value := #[.int .u32 (id : Int), .bool e, .bool r, dl, cd]

theorem accepts_any (w : World) (id : Nat) (e r : Bool) (dl cd : Value) :
    Calls Tryz.prog 57 #[.agg (fmV id e r dl cd)] w fun q w' => q = .returned (.func (.func 87) #[] #[.pointer (some ⟨w.heap.size, 0, none⟩)]) ∧ w' = w.alloc (.cells (fmV id e r dl cd) 35) := by
  have hmf : ∀ w', (Instr.makeFunc (.func 87) #[] #[.pointer (some ⟨w.heap.size, 0, none⟩)]).run Tryz.prog w' = .ok (.func (.func 87) #[] #[.pointer (some ⟨w.heap.size, 0, none⟩)]) w' := fun w' => rfl
  go_enter Tryz.func57, Tryz.ntmps57
  go_wp2
  go_ret
  exact ⟨rfl, rfl⟩

set_option maxHeartbeats 1000000 in
theorem fiIndex_any (w : World) (a : Option Addr) (n c : Nat) (l : List Fi) (b id : Nat) (e r : Bool) (dl cd : Value) (h : RK fiE 3 w a n c l) (hok : ∀ x ∈ l, x.Ok) (hn : n ≤ 100000) (hi : id < 4294967296) (hb : w.heap[b]? = some (.cells (fmV id e r dl cd) 35 (0, 0))) :
    Calls Tryz.prog 65 #[.slice a n c, .func (.func 87) #[] #[.pointer (some ⟨b, 0, none⟩)]] w fun q w' => q = .returned (.int .i64 (fiF id e l)) ∧ Below w.heap.size w w' := by
  have HL := hid h.len
  have HO := hid hok; clear hok
  go_enter Tryz.func65, Tryz.ntmps65
  go_wp2
  go_loopg [8] n (fun gn vi wr => ∃ k : Nat, k ≤ n ∧ gn = n - k ∧ vi = .int .i64 (k : Int) ∧ Hid (anyF id e (l.take k) = false) ∧ Below w.heap.size w wr)
  case atStart => exact ⟨0, by omega, by omega, rfl, by rw [List.take_zero]; rfl, Below.refl _ _⟩
  case round =>
    obtain ⟨k, hk, rfl, rfl, HF, hbl⟩ := hrel
    by_cases hlt : k < n
    · obtain ⟨p, hp⟩ : ∃ p, l[k]? = some p := ⟨l[k]'(by rw [HL.out]; exact hlt), by simp⟩
      obtain ⟨gb, off, rfl, hgb, hr⟩ := (h.below hbl).range hp
      have hcl := lets_any wr p (HO.out p (List.mem_of_getElem? hp)) b id e r dl cd hi (bx_below hb hbl)
      have HP := hid hp; clear hp
      cases he : letsF id e p
      · rw [he] at hcl
        have HE := hid he; clear he
        go_wp2_with (first
          | (with_reducible refine wpList_loadM rowFi rfl _ rfl _ _ rfl (fiV p) hr rfl ?_)
          | (go_at_call 87; (with_reducible refine hcl.mono ?_); rintro q w1 ⟨rfl, g1⟩))
        go_roundg (n - (k + 1))
        case measure => omega
        case rel => exact ⟨k + 1, by omega, rfl, by go_num, by show _ = _; rw [anyF_take HP.out, HF.out, HE.out]; rfl, bstep hbl g1⟩
      · rw [he] at hcl
        have HE := hid he; clear he
        go_wp2_with (first
          | (with_reducible refine wpList_loadM rowFi rfl _ rfl _ _ rfl (fiV p) hr rfl ?_)
          | (go_at_call 87; (with_reducible refine hcl.mono ?_); rintro q w1 ⟨rfl, g1⟩))
        go_ret
        exact ⟨ret_int (fiF_at HP.out HE.out HF.out).symm, bstep hbl g1⟩
    · obtain rfl : k = n := by omega
      go_wp2
      go_ret
      exact ⟨ret_int (fiF_no (by have := HF.out; rwa [List.take_of_length_le (by rw [HL.out]; exact Nat.le_refl _)] at this)).symm, hbl⟩

theorem fiContains_any (w : World) (a : Option Addr) (n c : Nat) (l : List Fi) (b id : Nat) (e r : Bool) (dl cd : Value) (h : RK fiE 3 w a n c l) (hok : ∀ x ∈ l, x.Ok) (hn : n ≤ 100000) (hi : id < 4294967296) (hb : w.heap[b]? = some (.cells (fmV id e r dl cd) 35 (0, 0))) :
    Calls Tryz.prog 34 #[.slice a n c, .func (.func 87) #[] #[.pointer (some ⟨b, 0, none⟩)]] w fun q w' => q = .returned (.bool (anyF id e l)) ∧ Below w.heap.size w w' := by
  have hc := fiIndex_any w a n c l b id e r dl cd h hok hn hi hb
  rw [← fiF_ge]
  generalize fiF id e l = v at *
  go_enter Tryz.func34, Tryz.ntmps34
  go_wp2_with (go_at_call 65; (with_reducible refine hc.mono ?_); rintro q w1 ⟨rfl, g1⟩)
  all_goals (go_ret; exact ⟨ret_bool (by simp), g1⟩)

theorem fiPass_any (w : World) (a : Option Addr) (n c : Nat) (l : List Fi) (id : Nat) (e r : Bool) (dl cd : Value) (h : RK fiE 3 w a n c l) (hok : ∀ x ∈ l, x.Ok) (hn : n ≤ 100000) (hi : id < 4294967296) :
    Calls Tryz.prog 25 #[.slice a n c, .agg (fmV id e r dl cd)] w fun q w' => q = .returned (.bool (passF id e l)) ∧ Below w.heap.size w w' := by
  have hb0 := heap_alloc_new w (.cells (fmV id e r dl cd) 35)
  have g0 := bnew0 w (.cells (fmV id e r dl cd) 35)
  have hb1 := heap_alloc_new (w.alloc (.cells (fmV id e r dl cd) 35)) (.cells (fmV id e r dl cd) 35)
  rw [heap_size_alloc] at hb1
  have g1 := bnew g0 (.cells (fmV id e r dl cd) 35)
  have hc := fiContains_any _ a n c l _ id e r dl cd (h.below g1) hok hn hi hb1
  rw [passF, h.len]
  generalize anyF id e l = v at *
  by_cases h0 : n = 0
  · subst h0
    go_enter Tryz.func25, Tryz.ntmps25
    go_wp2
    go_ret
    exact ⟨rfl, g0⟩
  · have d1 : ((n : Int) == 0) = false := by simp; omega
    rw [decide_eq_false h0, Bool.false_or]
    clear h0
    go_enter Tryz.func25, Tryz.ntmps25
    go_wp2_with (first
      | (with_reducible refine wpList_loadW rowF (by simp [Region.wanted, yielded]) _ rfl _ rfl hb0 rfl ?_)
      | (go_at_call 57; (with_reducible refine (accepts_any _ id e r dl cd).mono ?_); rintro q w1 ⟨rfl, rfl⟩)
      | (go_at_call 34; (with_reducible refine hc.mono ?_); rintro q w2 ⟨rfl, g2⟩))
    go_ret
    exact ⟨rfl, bstep g1 g2⟩
end Go.Proofs.YtajdbimdiodalaaGreat

namespace Go.Proofs.YtajdbimdiodalaaGreat
open Go.RowKit Go.Sort
set_option linter.unusedVariables false

end Go.Proofs.YtajdbimdiodalaaGreat
