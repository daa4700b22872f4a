import Derived.Test.YtebkfkijlopmoaaHo23
/- The document's Same, where both are alike. -/
namespace Go.Proofs.Ytebkfkijlopmoaa
open Go.RowKit SessionMath
set_option maxRecDepth 100000
set_option linter.unusedSimpArgs false
set_option linter.unusedVariables false

end Go.Proofs.Ytebkfkijlopmoaa

