import Derived.Test.YtglbjimpaoikfaaHe11
import Derived.Test.YtglbjimpaoikfaaHe09
import Derived.Lib.SliceRun
/- slices.Clone of a table's rows; own; boxes of six cells. -/
namespace Go.Proofs.Ytglbjimpaoikfaa
open Go.RowKit LeaseMath
set_option maxRecDepth 100000
set_option linter.unusedSimpArgs false
set_option linter.unusedVariables false

def CopyT {α : Type} (E : El α) (t : TypeId) (w : World) (l : List α) (v : Value) (w' : World) : Prop := Ow E t w.heap.size w' v l ∧ Below w.heap.size w w'

theorem set_block {w : World} {g j : Nat} {cs : Array Value} {t : TypeId} (h : w.heap[g]? = some (.cells cs t (0, 0))) (u : Value) : (w.setCell ⟨g, j, none⟩ u).heap[g]? = some (.cells (cs.setIfInBounds j u) t (0, 0)) := by
  simp [World.setCell, Array.getElem?_modify, h]
theorem set_other {w : World} {g j k : Nat} {u : Value} (h : k ≠ g) : (w.setCell ⟨g, j, none⟩ u).heap[k]? = w.heap[k]? := Below.heap_setCell _ _ _ _ h
end Go.Proofs.Ytglbjimpaoikfaa

