import Derived.Test.YtglbjimpaoikfaaHe08
/- Rows as they are read and made, of any element; appends to a row of one's own; outside. -/
namespace Go.Proofs.Ytglbjimpaoikfaa
open Go.RowKit SpanMath
set_option maxRecDepth 100000
set_option linter.unusedSimpArgs false
set_option linter.unusedVariables false

theorem Rd.sv {w : World} {v : Value} {l : List Sp} (h : Rd spE w v l) : Sv w v l := by
  obtain ⟨ao, cap, e, _, _, h2⟩ := h
  refine ⟨ao, cap, e, fun i s hs => ?_⟩
  obtain ⟨b, off, r1, r2⟩ := h2 i s 0 _ hs rfl
  obtain ⟨b', off', r3, r4⟩ := h2 i s 1 _ hs rfl
  rw [r1] at r3
  cases r3
  exact ⟨b, off, r1, r2, by rw [← Nat.add_assoc] at r4; exact r4⟩
end Go.Proofs.Ytglbjimpaoikfaa

/- Plain mathematics of rows by rising keys: which may be, who has a key, one more or less. -/
namespace LeaseMath
set_option linter.unusedSimpArgs false
set_option linter.unusedVariables false

abbrev K := List UInt8
variable {β : Type}
def lnk : Option (K × β) → K × β → Bool
  | none, _ => true
  | some p, s => decide (p.1 < s.1)
def walk (ok : K × β → Bool) : Option (K × β) → List (K × β) → Bool
  | _, [] => true
  | p, s :: l => ok s && lnk p s && walk ok (some s) l
/-- The one ahead. -/
def prev (l : List (K × β)) (i : Nat) : Option (K × β) := if i = 0 then none else l[i - 1]?
theorem prev_succ {l : List (K × β)} {i : Nat} {r : K × β} (h : l[i]? = some r) : prev l (i + 1) = some r := by
  unfold prev
  rw [if_neg (by omega)]
  simpa using h
theorem walk_at {ok : K × β → Bool} {l : List (K × β)} {p : Option (K × β)} {i : Nat} {r : K × β} (h : l[i]? = some r) : walk ok p (l.drop i) = (ok r && lnk p r && walk ok (some r) (l.drop (i + 1))) := by
  obtain ⟨hi, rfl⟩ := List.getElem?_eq_some_iff.1 h
  rw [List.drop_eq_getElem_cons hi, walk]
theorem walk_end {ok : K × β → Bool} {l : List (K × β)} {p : Option (K × β)} {i : Nat} (h : l.length ≤ i) : walk ok p (l.drop i) = true := by
  rw [List.drop_of_length_le h, walk]
/-- A hold: its key, its token, till when. A mark: its key, its token. -/
abbrev Hd := K × Nat × Int
abbrev Mk := K × Nat
end LeaseMath

