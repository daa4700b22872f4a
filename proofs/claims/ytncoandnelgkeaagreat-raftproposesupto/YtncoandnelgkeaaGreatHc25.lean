import Derived.Test.YtncoandnelgkeaaGreatHc03
import Derived.Test.YtncoandnelgkeaaGreatHc24
/- The contracts of slices.Grow and slices.Concat at numbers. -/
namespace Go.Proofs.YtncoandnelgkeaaGreat
open Go.RowKit QuorumMath
set_option maxRecDepth 100000
set_option linter.unusedSimpArgs false
set_option linter.unusedVariables false

end Go.Proofs.YtncoandnelgkeaaGreat

/- The contract of slices.BinarySearch at numbers. -/
namespace Go.Proofs.YtncoandnelgkeaaGreat
open Go.RowKit QuorumMath
set_option maxRecDepth 100000
set_option linter.unusedSimpArgs false
set_option linter.unusedVariables false

end Go.Proofs.YtncoandnelgkeaaGreat

/- The contract of Next. -/
namespace Go.Proofs.YtncoandnelgkeaaGreat
open Go.RowKit QuorumMath
set_option maxRecDepth 100000
set_option linter.unusedSimpArgs false
set_option linter.unusedVariables false

end Go.Proofs.YtncoandnelgkeaaGreat

