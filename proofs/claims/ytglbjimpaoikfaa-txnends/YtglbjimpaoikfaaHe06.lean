import Derived.Test.YtglbjimpaoikfaaHe05
/- The contracts of Join and Split. -/
namespace Go.Proofs.Ytglbjimpaoikfaa
open Go.RowKit SpanMath
set_option maxRecDepth 100000
set_option linter.unusedSimpArgs false
set_option linter.unusedVariables false

end Go.Proofs.Ytglbjimpaoikfaa

/- The contract of Split. -/
namespace Go.Proofs.Ytglbjimpaoikfaa
open Go.RowKit SpanMath
set_option maxRecDepth 100000
set_option linter.unusedSimpArgs false
set_option linter.unusedVariables false

end Go.Proofs.Ytglbjimpaoikfaa

