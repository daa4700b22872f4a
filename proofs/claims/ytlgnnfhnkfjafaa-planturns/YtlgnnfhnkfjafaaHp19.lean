import Derived.Test.YtlgnnfhnkfjafaaHp18
/- Slices of ranges as they are read. -/
namespace Go.Proofs.Ytlgnnfhnkfjafaa
open Go.RowKit SpanMath ChartMath
set_option maxRecDepth 100000
set_option linter.unusedSimpArgs false
set_option linter.unusedVariables false

/-- A slice of ranges as it is read. -/
def Cv (w : World) (v : Value) (l : List Rg) : Prop :=
  ∃ ao cap, v = .slice ao l.length cap ∧ ∀ (i : Nat) (r : Rg), l[i]? = some r → ∃ b off, ao = some ⟨b, off, none⟩ ∧ w.cell? ⟨b, off + i * 4, none⟩ = some (.string (bk r.1.1)) ∧ w.cell? ⟨b, off + i * 4 + 1, none⟩ = some (.string (bk r.1.2)) ∧ w.cell? ⟨b, off + i * 4 + 2, none⟩ = some (.int .i64 r.2.1) ∧ w.cell? ⟨b, off + i * 4 + 3, none⟩ = some (.int .u64 r.2.2)
theorem Cv.below {w w' : World} {v : Value} {l : List Rg} (h : Cv w v l) (hb : Below w.heap.size w w') : Cv w' v l := by
  obtain ⟨ao, cap, e, h2⟩ := h
  refine ⟨ao, cap, e, fun i r hr => ?_⟩
  obtain ⟨b, off, r1, r2, r3, r4, r5⟩ := h2 i r hr
  have hlt := World.block_lt_of_cell? w _ r2
  exact ⟨b, off, r1, (hb.cell (p := ⟨b, off + i * 4, none⟩) hlt).trans r2, (hb.cell (p := ⟨b, off + i * 4 + 1, none⟩) hlt).trans r3, (hb.cell (p := ⟨b, off + i * 4 + 2, none⟩) hlt).trans r4, (hb.cell (p := ⟨b, off + i * 4 + 3, none⟩) hlt).trans r5⟩
theorem Rd.cv {w : World} {v : Value} {l : List Rg} (h : Rd rgE w v l) : Cv w v l := by
  obtain ⟨ao, cap, e, _, _, h2⟩ := h
  refine ⟨ao, cap, e, fun i r hr => ?_⟩
  obtain ⟨b, off, r1, r2⟩ := h2 i r 0 _ hr rfl
  obtain ⟨b', off', e1, r3⟩ := h2 i r 1 _ hr rfl
  obtain ⟨b2, off2, e2, r4⟩ := h2 i r 2 _ hr rfl
  obtain ⟨b3, off3, e3, r5⟩ := h2 i r 3 _ hr rfl
  rw [r1] at e1 e2 e3
  cases e1
  cases e2
  cases e3
  exact ⟨b, off, r1, r2, by rw [← Nat.add_assoc] at r3; exact r3, by rw [← Nat.add_assoc] at r4; exact r4, by rw [← Nat.add_assoc] at r5; exact r5⟩
theorem walk_at {l : List Rg} {p : Option Rg} {i : Nat} {r : Rg} (h : l[i]? = some r) : walk p (l.drop i) = (rOk r && lnkO p r && walk (some r) (l.drop (i + 1))) := by
  obtain ⟨hi, rfl⟩ := List.getElem?_eq_some_iff.1 h
  rw [List.drop_eq_getElem_cons hi, walk]
/-- The one ahead. -/
def prev (l : List Rg) (i : Nat) : Option Rg := if i = 0 then none else l[i - 1]?
theorem prev_succ {l : List Rg} {i : Nat} {r : Rg} (h : l[i]? = some r) : prev l (i + 1) = some r := by
  unfold prev
  rw [if_neg (by omega)]
  simpa using h
end Go.Proofs.Ytlgnnfhnkfjafaa

