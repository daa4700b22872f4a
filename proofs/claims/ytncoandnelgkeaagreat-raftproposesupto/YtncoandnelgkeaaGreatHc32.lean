import Derived.Test.YtncoandnelgkeaaGreatHc17
import Derived.Test.YtncoandnelgkeaaGreatHc04
/- The document's follow, won. -/
namespace Go.Proofs.YtncoandnelgkeaaGreat
open Go.RowKit QuorumMath RlogMath RaftMath
set_option maxRecDepth 100000
set_option linter.unusedSimpArgs false
set_option linter.unusedVariables false

end Go.Proofs.YtncoandnelgkeaaGreat

