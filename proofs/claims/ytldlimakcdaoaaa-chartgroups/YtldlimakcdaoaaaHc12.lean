import Derived.Test.YtldlimakcdaoaaaHc11
/- The contracts of Covers and of outside. -/
namespace Go.Proofs.Ytldlimakcdaoaaa
open Go.RowKit SpanMath
set_option maxRecDepth 100000
set_option linter.unusedSimpArgs false
set_option linter.unusedVariables false

/-- What Covers tells. -/
def covP (l : List Sp) (s : Sp) : Bool := formB l && l.any fun x => decide (meetP x s = some s)
theorem meetV_none : meetV none = .tuple #[.agg #[.string { data := #[] }, .string { data := #[] }], .bool false] := rfl
theorem meetV_some (a b : K) : meetV (some (a, b)) = .tuple #[.agg #[.string (bk a), .string (bk b)], .bool true] := rfl
/-- One box. -/
theorem one_box (w : World) (o : Obj) : (w.alloc o).heap.size = w.heap.size + 1 ∧ (w.alloc o).heap[w.heap.size]? = some o ∧ Below w.heap.size w (w.alloc o) := ⟨by simp, heap_alloc_new w o, (Below.refl _ _).alloc (Nat.le_refl _) _⟩

end Go.Proofs.Ytldlimakcdaoaaa

