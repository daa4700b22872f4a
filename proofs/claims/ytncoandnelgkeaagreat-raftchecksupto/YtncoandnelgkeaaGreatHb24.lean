import Derived.Test.YtncoandnelgkeaaGreatHb18
import Derived.Test.YtncoandnelgkeaaGreatHb23
import Derived.Test.YtncoandnelgkeaaGreatHb06
import Derived.Test.YtncoandnelgkeaaGreatHb21
/- The document's say: a state says something. -/
namespace Go.Proofs.YtncoandnelgkeaaGreat
open Go.RowKit QuorumMath RlogMath RaftMath
set_option maxRecDepth 100000
set_option linter.unusedSimpArgs false
set_option linter.unusedVariables false

end Go.Proofs.YtncoandnelgkeaaGreat

/- The document's tell: a peer is told. -/
namespace Go.Proofs.YtncoandnelgkeaaGreat
open Go.RowKit QuorumMath RlogMath RaftMath
set_option maxRecDepth 100000
set_option linter.unusedSimpArgs false
set_option linter.unusedVariables false

theorem mes_slice (b : Ez) (zs : List Ez) (x : Nat) : mes (sliceZ b zs x 16) = sliceM b.1 (mes zs) x 16 := by
  unfold sliceZ sliceM
  split
  · unfold pickZ pickM mes
    rw [List.map_take, List.filter_map]
    rfl
  · rfl
theorem termM_d (o : Option Nat) : (.tuple #[.int .u64 ((o.getD 0 : Nat) : Int), .bool o.isSome] : Value) = termV o := by cases o <;> rfl
end Go.Proofs.YtncoandnelgkeaaGreat

/- The document's tellAll: all others are told. -/
namespace Go.Proofs.YtncoandnelgkeaaGreat
open Go.RowKit QuorumMath RlogMath RaftMath
set_option maxRecDepth 100000
set_option linter.unusedSimpArgs false
set_option linter.unusedVariables false

end Go.Proofs.YtncoandnelgkeaaGreat

