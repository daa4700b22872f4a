import Derived.Test.YtlgnnfhnkfjafaaHp14
import Derived.Lib.AppendZerosOnto
/- The contracts of slices.Grow at the nil slice and of slices.Concat. -/
namespace Go.Proofs.Ytlgnnfhnkfjafaa
open Go.RowKit SpanMath
set_option maxRecDepth 100000
set_option linter.unusedSimpArgs false
set_option linter.unusedVariables false

theorem zeroCells_size (z : Array Value) (n : Nat) : (Builtin.zeroCells z n).size = n * z.size := by simp [Builtin.zeroCells]

end Go.Proofs.Ytlgnnfhnkfjafaa

