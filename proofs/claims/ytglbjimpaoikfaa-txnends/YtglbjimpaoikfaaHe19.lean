import Derived.Test.YtglbjimpaoikfaaHe11
/- slices.IndexFunc and slices.ContainsFunc with the closures of table: what a closure tells is a premise. -/
namespace Go.Proofs.Ytglbjimpaoikfaa
open Go.RowKit LeaseMath
set_option maxRecDepth 100000
set_option linter.unusedSimpArgs false
set_option linter.unusedVariables false

/-- Where the first stands. -/
def firstP {α : Type} (P : α → Bool) : List α → Nat → Option Nat
  | [], _ => none
  | x :: l, j => if P x then some j else firstP P l (j + 1)
def idxP : Option Nat → Int
  | none => -1
  | some i => (i : Int)
theorem firstP_some {α : Type} (P : α → Bool) : ∀ (l : List α) (j : Nat), (firstP P l j).isSome = l.any P
  | [], j => rfl
  | x :: l, j => by
    rw [firstP, List.any_cons]
    cases P x with
    | true => rfl
    | false => simpa using firstP_some P l (j + 1)
theorem firstP_at {α : Type} {P : α → Bool} {l : List α} {i : Nat} {s : α} (hs : l[i]? = some s) : firstP P (l.drop i) i = if P s then some i else firstP P (l.drop (i + 1)) (i + 1) := by
  obtain ⟨h, rfl⟩ := List.getElem?_eq_some_iff.1 hs
  rw [List.drop_eq_getElem_cons h, firstP]

end Go.Proofs.Ytglbjimpaoikfaa

