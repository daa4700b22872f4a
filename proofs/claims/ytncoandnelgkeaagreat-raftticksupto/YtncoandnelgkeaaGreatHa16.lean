import Derived.Test.YtncoandnelgkeaaGreatHa13
import Derived.Test.YtncoandnelgkeaaGreatHa14
import Derived.Test.YtncoandnelgkeaaGreatHa15
/- The program's Compact. -/
namespace RlogMath
theorem votF_len {N : Nat} : ∀ (l : List Me) (d : List Nat), (∀ e ∈ l, e.data.length ≤ N) → d.length ≤ N → (votF d l).length ≤ N
  | [], d, _, h => h
  | e :: l, d, hl, h => by
    rw [votF]
    refine votF_len l _ (fun y hy => hl y (List.mem_cons_of_mem _ hy)) ?_
    split
    · exact hl e List.mem_cons_self
    · exact h
end RlogMath
namespace Go.Proofs.YtncoandnelgkeaaGreat
open Go.RowKit QuorumMath RlogMath
set_option maxRecDepth 100000
set_option linter.unusedSimpArgs false
set_option linter.unusedVariables false

end Go.Proofs.YtncoandnelgkeaaGreat

/- The law's small. -/
namespace RlogMath
open QuorumMath
end RlogMath
namespace Go.Proofs.YtncoandnelgkeaaGreat
open Go.RowKit QuorumMath RlogMath
set_option maxRecDepth 100000
set_option linter.unusedSimpArgs false
set_option linter.unusedVariables false

end Go.Proofs.YtncoandnelgkeaaGreat

/- The law's awake. -/
namespace Go.Proofs.YtncoandnelgkeaaGreat
open Go.RowKit QuorumMath RlogMath
set_option maxRecDepth 100000
set_option linter.unusedSimpArgs false
set_option linter.unusedVariables false

end Go.Proofs.YtncoandnelgkeaaGreat

/- The law RlogTells. -/
namespace Go.Proofs.YtncoandnelgkeaaGreat
open Go.RowKit QuorumMath RlogMath
set_option maxRecDepth 100000
set_option linter.unusedSimpArgs false
set_option linter.unusedVariables false

end Go.Proofs.YtncoandnelgkeaaGreat

