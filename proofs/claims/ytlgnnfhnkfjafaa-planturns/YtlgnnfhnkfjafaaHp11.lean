import Derived.Test.YtlgnnfhnkfjafaaHp10
/- The contracts of the document's own In; of In with its closure; of few. -/
namespace Go.Proofs.Ytlgnnfhnkfjafaa
open Go.RowKit SpanMath
set_option maxRecDepth 100000
set_option linter.unusedSimpArgs false
set_option linter.unusedVariables false

end Go.Proofs.Ytlgnnfhnkfjafaa

