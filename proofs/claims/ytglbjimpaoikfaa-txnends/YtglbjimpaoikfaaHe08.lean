import Derived.Test.YtglbjimpaoikfaaHe07
/- The contracts of the document's own In; of In with its closure; of few. -/
namespace Go.Proofs.Ytglbjimpaoikfaa
open Go.RowKit SpanMath
set_option maxRecDepth 100000
set_option linter.unusedSimpArgs false
set_option linter.unusedVariables false

end Go.Proofs.Ytglbjimpaoikfaa

/- The contracts of Covers and of outside. -/
namespace Go.Proofs.Ytglbjimpaoikfaa
open Go.RowKit SpanMath
set_option maxRecDepth 100000
set_option linter.unusedSimpArgs false
set_option linter.unusedVariables false

end Go.Proofs.Ytglbjimpaoikfaa

