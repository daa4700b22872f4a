import Derived.Test.YtfpbgfmnjpamlaaGreatHv29
import Derived.Test.YtfpbgfmnjpamlaaGreatHv01
/- The document's MayCall. -/
namespace Go.Proofs.YtfpbgfmnjpamlaaGreat
open Go.RowKit LeaseMath
set_option maxRecDepth 100000
set_option linter.unusedSimpArgs false
set_option linter.unusedVariables false

end Go.Proofs.YtfpbgfmnjpamlaaGreat

