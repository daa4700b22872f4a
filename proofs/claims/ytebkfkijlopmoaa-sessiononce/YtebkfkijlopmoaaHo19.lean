import Derived.Test.YtebkfkijlopmoaaHo18
import Derived.Deep.RegionLaw
/- The contract of the law's own written, of bytes and of all items. -/
namespace Go.Proofs.Ytebkfkijlopmoaa.Wi
open Go.RowKit WireMath
set_option maxRecDepth 100000
set_option linter.unusedSimpArgs false

end Go.Proofs.Ytebkfkijlopmoaa.Wi

