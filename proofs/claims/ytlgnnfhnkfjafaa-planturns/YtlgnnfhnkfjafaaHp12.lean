import Derived.Test.YtlgnnfhnkfjafaaHp11
/- The contracts of Covers and of outside. -/
namespace Go.Proofs.Ytlgnnfhnkfjafaa
open Go.RowKit SpanMath
set_option maxRecDepth 100000
set_option linter.unusedSimpArgs false
set_option linter.unusedVariables false

/-- One box. -/
theorem one_box (w : World) (o : Obj) : (w.alloc o).heap.size = w.heap.size + 1 ∧ (w.alloc o).heap[w.heap.size]? = some o ∧ Below w.heap.size w (w.alloc o) := ⟨by simp, heap_alloc_new w o, (Below.refl _ _).alloc (Nat.le_refl _) _⟩

end Go.Proofs.Ytlgnnfhnkfjafaa

