import Derived.Test.YtncoandnelgkeaaGreatHb02
/- Who follows: plain mathematics. -/
namespace QuorumMath
set_option linter.unusedSimpArgs false
set_option linter.unusedVariables false

end QuorumMath

