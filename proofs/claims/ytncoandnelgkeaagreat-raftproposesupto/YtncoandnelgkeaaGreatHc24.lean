import Derived.Test.YtncoandnelgkeaaGreatHc02
/- Who follows: plain mathematics. -/
namespace QuorumMath
set_option linter.unusedSimpArgs false
set_option linter.unusedVariables false

def safeB (a b : List Int) : Bool := votB a && votB b && decide ((a.length : Int) + (b.length : Int) - 2 * (cnt a b : Nat) ≤ 1)
end QuorumMath

