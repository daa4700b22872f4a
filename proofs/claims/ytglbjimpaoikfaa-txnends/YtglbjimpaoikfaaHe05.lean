import Derived.Test.YtglbjimpaoikfaaHe04
/- The contracts of Check, Has, Meet, Split, Join. -/
namespace Go.Proofs.Ytglbjimpaoikfaa
open Go.RowKit SpanMath
set_option maxRecDepth 100000
set_option linter.unusedSimpArgs false
set_option linter.unusedVariables false

end Go.Proofs.Ytglbjimpaoikfaa

/- The contract of Meet: what two spans have. -/
namespace Go.Proofs.Ytglbjimpaoikfaa
open Go.RowKit SpanMath
set_option maxRecDepth 100000
set_option linter.unusedSimpArgs false
set_option linter.unusedVariables false

end Go.Proofs.Ytglbjimpaoikfaa

