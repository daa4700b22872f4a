import Derived.Test.YtncoandnelgkeaaGreatHb18
import Derived.Test.YtncoandnelgkeaaGreatHb06
import Derived.Test.YtncoandnelgkeaaGreatHb27
/- The document's commit: what a majority has. -/
namespace Go.Proofs.YtncoandnelgkeaaGreat
open Go.RowKit QuorumMath RlogMath RaftMath
set_option maxRecDepth 100000
set_option linter.unusedSimpArgs false
set_option linter.unusedVariables false

end Go.Proofs.YtncoandnelgkeaaGreat

