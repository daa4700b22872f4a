import Derived.Test.YtmmonehpfmlmeaaHm06
/- The contracts of slices.Contains, common, Won, Lost; of the document's In, Count, Voters. -/
namespace Go.Proofs.Ytmmonehpfmlmeaa
open Go.RowKit QuorumMath
set_option maxRecDepth 100000
set_option linter.unusedSimpArgs false
set_option linter.unusedVariables false

/-- What Index tells: something from 0 on, if it is in. -/
def IdxT (l : List Int) (x : Int) (e : Ending) : Prop := ∃ z : Int, e = .returned (.int .i64 z) ∧ (x ∈ l ↔ 0 ≤ z)
theorem notin_succ {l : List Int} {i : Nat} {x y : Int} (h : x ∉ l.take i) (hy : l[i]? = some y) (hne : ¬ x = y) : x ∉ l.take (i + 1) := by
  rw [take_succ_get hy, List.mem_append, List.mem_singleton]
  rintro (h' | h')
  · exact h h'
  · exact hne h'

end Go.Proofs.Ytmmonehpfmlmeaa

