import Derived.Test.YtfpbgfmnjpamlaaGreatHv36
import Derived.Test.YtfpbgfmnjpamlaaGreatHv32
import Derived.Test.YtfpbgfmnjpamlaaGreatHv39
import Derived.Test.YtfpbgfmnjpamlaaGreatHv40
/- The law TableAll: what its calls tell. -/
namespace Go.Proofs.YtfpbgfmnjpamlaaGreat
open Go.RowKit LeaseMath
set_option maxRecDepth 100000
set_option linter.unusedSimpArgs false
set_option linter.unusedVariables false

theorem cells6 {w : World} {g : Nat} {a b c d e f : Value} {t : TypeId} (H : w.heap[g]? = some (.cells #[a, b, c, d, e, f] t (0, 0))) : w.cell? ⟨g, 0, none⟩ = some a ∧ w.cell? ⟨g, 1, none⟩ = some b ∧ w.cell? ⟨g, 2, none⟩ = some c ∧ w.cell? ⟨g, 3, none⟩ = some d ∧ w.cell? ⟨g, 4, none⟩ = some e ∧ w.cell? ⟨g, 5, none⟩ = some f := by
 refine ⟨?_, ?_, ?_, ?_, ?_, ?_⟩ <;> rw [cells_of_block H] <;> rfl
theorem light_iff {t : Tb} : lightT t = true ↔ t.holds.length + t.marks.length + t.ints.length ≤ 100 ∧ t.spans.length + t.frozen.length ≤ 24 := by
 unfold lightT locksN
 simp
theorem ok_sizes {t : Tb} (h : okT t = true) : t.spans.length ≤ 64 ∧ t.frozen.length ≤ 64 ∧ t.holds.length ≤ 1024 ∧ t.marks.length ≤ 1024 ∧ t.ints.length ≤ 1024 := by
 have s1 := okT_spans h
 have s2 := (okT_iff.1 h).2.2.1
 unfold locksN at s2
 exact ⟨s1.1, s1.2, by omega, by omega, by omega⟩
end Go.Proofs.YtfpbgfmnjpamlaaGreat

