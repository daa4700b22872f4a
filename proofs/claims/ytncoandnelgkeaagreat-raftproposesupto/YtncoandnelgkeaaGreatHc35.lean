import Derived.Test.YtncoandnelgkeaaGreatHc27
import Derived.Test.YtncoandnelgkeaaGreatHc28
import Derived.Test.YtncoandnelgkeaaGreatHc34
import Derived.Test.YtncoandnelgkeaaGreatHc32
/- The document's lead. -/
namespace Go.Proofs.YtncoandnelgkeaaGreat
open Go.RowKit QuorumMath RlogMath RaftMath
set_option maxRecDepth 100000
set_option linter.unusedSimpArgs false
set_option linter.unusedVariables false

end Go.Proofs.YtncoandnelgkeaaGreat

/- The document's ask: it campaigns. -/
namespace Go.Proofs.YtncoandnelgkeaaGreat
open Go.RowKit QuorumMath RlogMath RaftMath
set_option maxRecDepth 100000
set_option linter.unusedSimpArgs false
set_option linter.unusedVariables false

end Go.Proofs.YtncoandnelgkeaaGreat

