import Derived.Test.YtfpbgfmnjpamlaaGreatHu32
/- One put among rows by rising keys: who is there then, who is found. -/
namespace Go.Proofs.YtfpbgfmnjpamlaaGreat
open Go.RowKit LeaseMath
set_option linter.unusedSimpArgs false
set_option linter.unusedVariables false

theorem find_iff {β : Type} {l : List (K × β)} {c : K} {s : K × β} (hl : l.Pairwise (fun a b => a.1 < b.1)) : findM l c = some s ↔ s ∈ l ∧ s.1 = c := by
 constructor
 ·intro h
  unfold findM at h
  exact ⟨List.mem_of_find?_eq_some h, by simpa using List.find?_some h⟩
 ·rintro ⟨h1, h2⟩
  exact find_mem hl h1 h2
theorem heldN_find {l : List Hd} {c : K} : heldN l c = match findM l c with | some h => h.2.1 | none => 0 := rfl
theorem held_none {l : List Hd} {c : K} (h : ∀ y ∈ l, y.1 ≠ c) : heldN l c = 0 := by rw [heldN_find, find_none h]
end Go.Proofs.YtfpbgfmnjpamlaaGreat

/- What a table behind its intents is: it may be; whose the keys are. -/
namespace Go.Proofs.YtfpbgfmnjpamlaaGreat
open Go.RowKit LeaseMath
set_option linter.unusedSimpArgs false
set_option linter.unusedVariables false

/-- A table's locks with room for n more. -/
structure Room (t : Tb) (n : Nat) : Prop where
 now : timeB t.now = true
 holds : mayB holdB t.holds = true
 marks : mayB markB t.marks = true
 free : ∀ m ∈ t.marks, heldN t.holds m.1 = 0 ∧ inP t.spans m.1 = true
 mine : ∀ h ∈ t.holds, inP t.spans h.1 = true
 len : t.holds.length + t.marks.length + n ≤ 1024
theorem int_iff {sp : List Sp} {x : It} : intB sp x = true ↔ idB x.2.1 = true ∧ turnB x.2.2.1 x.2.2.2.2 = true ∧ x.2.2.2.1 ≠ 0 ∧ inP sp x.1 = true := by
 unfold intB
 simp only [Bool.and_eq_true, decide_eq_true_eq, and_assoc]
theorem may_up {β : Type} {ok : K × β → Bool} {l : List (K × β)} (h : mayB ok l = true) : l.Pairwise (fun a b => a.1 < b.1) := (may_iff.1 h).2.2
end Go.Proofs.YtfpbgfmnjpamlaaGreat

