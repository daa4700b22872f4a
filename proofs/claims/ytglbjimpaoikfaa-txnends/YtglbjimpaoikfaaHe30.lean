import Derived.Test.YtglbjimpaoikfaaHe20
/- Lists held against each other. -/
namespace Go.Proofs.Ytglbjimpaoikfaa
open Go.RowKit LeaseMath
set_option maxRecDepth 100000
set_option linter.unusedSimpArgs false
set_option linter.unusedVariables false

end Go.Proofs.Ytglbjimpaoikfaa

