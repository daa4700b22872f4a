import Derived.Test.YtncoandnelgkeaaGreatHc42
import Derived.Test.YtncoandnelgkeaaGreatHc14
import Derived.Test.YtncoandnelgkeaaGreatHc43
/- The program's Same, where both are one. -/
namespace Go.Proofs.YtncoandnelgkeaaGreat
open Go.RowKit QuorumMath RlogMath RaftMath
set_option maxRecDepth 100000
set_option linter.unusedSimpArgs false
set_option linter.unusedVariables false

end Go.Proofs.YtncoandnelgkeaaGreat

/- Restart: the program's and the document's. -/
namespace Go.Proofs.YtncoandnelgkeaaGreat
open Go.RowKit QuorumMath RlogMath RaftMath
set_option maxRecDepth 100000
set_option linter.unusedSimpArgs false
set_option linter.unusedVariables false

end Go.Proofs.YtncoandnelgkeaaGreat

/- The program's mayBeHead; when a message may be. -/
namespace Go.Proofs.YtncoandnelgkeaaGreat
open Go.RowKit QuorumMath RlogMath RaftMath
set_option maxRecDepth 100000
set_option linter.unusedSimpArgs false
set_option linter.unusedVariables false

end Go.Proofs.YtncoandnelgkeaaGreat

/- The program's mayBeEntries, mayBeSnap, CheckMsg. -/
namespace Go.Proofs.YtncoandnelgkeaaGreat
open Go.RowKit QuorumMath RlogMath RaftMath
set_option maxRecDepth 100000
set_option linter.unusedSimpArgs false
set_option linter.unusedVariables false

/-- Whether there is one. -/
def AnyT (zs : List Ez) (p : Ez → Bool) (e : Ending) : Prop := ∃ x : Int, e = .returned (.int .i64 x) ∧ (0 ≤ x ↔ zs.any p = true)
end Go.Proofs.YtncoandnelgkeaaGreat

