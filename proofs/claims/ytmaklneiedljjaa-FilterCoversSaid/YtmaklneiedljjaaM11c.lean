/-
  Plain mathematics of layer 11: numbers made rising, each once; the filters of identifiers, as a function.
-/
import Derived.Test.YtmaklneiedljjaaM11
import Derived.Test.YtmaklneiedljjaaM11b
namespace Go.Proofs.Ytmaklneiedljjaa
set_option linter.unusedVariables false

def insR (x : Nat) : List Nat → List Nat
  | [] => [x]
  | y :: l => if x < y then x :: y :: l else if x = y then y :: l else y :: insR x l
def uqL (l : List Nat) : List Nat := l.foldr insR []

theorem insR_mem (x z : Nat) : ∀ l : List Nat, z ∈ insR x l ↔ z = x ∨ z ∈ l
  | [] => by simp [insR]
  | y :: l => by
    unfold insR
    split
    · simp
    · split
      · rename_i h; subst h; simp
      · rw [List.mem_cons, insR_mem x z l, List.mem_cons]
        constructor
        · rintro (h | h | h) <;> simp [h]
        · rintro (h | h | h) <;> simp [h]
theorem insR_rise (x : Nat) : ∀ {l : List Nat}, l.Pairwise (· < ·) → (insR x l).Pairwise (· < ·)
  | [], _ => by simp [insR]
  | y :: l, h => by
    have hh := List.pairwise_cons.1 h
    unfold insR
    split
    · rename_i hx
      exact List.pairwise_cons.2 ⟨fun z hz => by
        rcases List.mem_cons.1 hz with e | e
        · rw [e]; exact hx
        · have := hh.1 z e; omega, h⟩
    · split
      · exact h
      · exact List.pairwise_cons.2 ⟨fun z hz => by
          rcases (insR_mem x z l).1 hz with e | e
          · omega
          · exact hh.1 z e, insR_rise x hh.2⟩
theorem uqL_rise : ∀ l : List Nat, (uqL l).Pairwise (· < ·)
  | [] => List.Pairwise.nil
  | x :: l => insR_rise x (uqL_rise l)
theorem uqL_mem (z : Nat) : ∀ l : List Nat, z ∈ uqL l ↔ z ∈ l
  | [] => Iff.rfl
  | x :: l => by
    show z ∈ insR x (uqL l) ↔ _
    rw [insR_mem, uqL_mem z l, List.mem_cons]
theorem uqL_is {l u : List Nat} (h1 : u.Pairwise (· < ·)) (h2 : ∀ x, x ∈ u ↔ x ∈ l) : u = uqL l :=
  rise_one h1 (uqL_rise l) fun x => (h2 x).trans (uqL_mem x l).symm
theorem insR_length (x : Nat) : ∀ l : List Nat, (insR x l).length ≤ l.length + 1
  | [] => by simp [insR]
  | y :: l => by
    unfold insR
    split
    · simp
    · split
      · simp
      · have := insR_length x l; simp; omega
theorem uqL_length : ∀ l : List Nat, (uqL l).length ≤ l.length
  | [] => by simp [uqL]
  | x :: l => by
    have h := insR_length x (uqL l)
    have h2 := uqL_length l
    show (insR x (uqL l)).length ≤ _
    simp; omega

def mkFo (e : Bool) (x : Nat) : Fi := ⟨e, topF e, x⟩
def onlyE (e : Bool) (l : List Nat) : Int := if l.any (fun x => decide (topF e < x)) = true then 2 else if 64 < (uqL l).length then 5 else 0
def onlyL (e : Bool) (l : List Nat) : List Fi := if onlyE e l = 0 then (uqL l).map (mkFo e) else []
end Go.Proofs.Ytmaklneiedljjaa
