import Derived.Test.YtncoandnelgkeaaGreatHc35
/- The document's Tick, case by case. -/
namespace Go.Proofs.YtncoandnelgkeaaGreat
open Go.RowKit QuorumMath RlogMath RaftMath
set_option maxRecDepth 100000
set_option linter.unusedSimpArgs false
set_option linter.unusedVariables false

end Go.Proofs.YtncoandnelgkeaaGreat

/- The document's Tick, case by case. -/
namespace Go.Proofs.YtncoandnelgkeaaGreat
open Go.RowKit QuorumMath RlogMath RaftMath
set_option maxRecDepth 100000
set_option linter.unusedSimpArgs false
set_option linter.unusedVariables false

end Go.Proofs.YtncoandnelgkeaaGreat

/- The document's Tick, case by case. -/
namespace Go.Proofs.YtncoandnelgkeaaGreat
open Go.RowKit QuorumMath RlogMath RaftMath
set_option maxRecDepth 100000
set_option linter.unusedSimpArgs false
set_option linter.unusedVariables false

end Go.Proofs.YtncoandnelgkeaaGreat

/- The document's Tick. -/
namespace Go.Proofs.YtncoandnelgkeaaGreat
open Go.RowKit QuorumMath RlogMath RaftMath
set_option maxRecDepth 100000
set_option linter.unusedSimpArgs false
set_option linter.unusedVariables false

end Go.Proofs.YtncoandnelgkeaaGreat

