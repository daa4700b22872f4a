import Derived.Test.YtebkfkijlopmoaaHo08
import Derived.Laws.Bits64b
import Derived.Laws.Bits64
/- The contract of the program's own first: the number that bytes begin with, in its one form, and how many bytes it takes; nothing turns. -/
namespace Go.Proofs.Ytebkfkijlopmoaa.Wi
open Go.RowKit WireMath
set_option maxRecDepth 100000
set_option linter.unusedSimpArgs false

end Go.Proofs.Ytebkfkijlopmoaa.Wi

