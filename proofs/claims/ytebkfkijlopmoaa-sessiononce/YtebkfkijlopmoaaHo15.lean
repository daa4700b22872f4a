import Derived.Test.YtebkfkijlopmoaaHo06
import Derived.Deep.LoopGhost
/- The contracts of the program's Uvarint and of the document's own: the number's bytes behind what was there, in memory of the call's own; what lay in memory before stays as it was. -/
namespace Go.Proofs.Ytebkfkijlopmoaa.Wi
open Go.RowKit WireMath
set_option maxRecDepth 100000
set_option linter.unusedSimpArgs false

end Go.Proofs.Ytebkfkijlopmoaa.Wi

