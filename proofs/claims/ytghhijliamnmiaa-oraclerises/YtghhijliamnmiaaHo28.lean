import Derived.Test.YtghhijliamnmiaaHo27
import Derived.Deep.RegionLaw
/- The contract of the law's own written, of bytes and of all items. -/
namespace Go.Proofs.Ytghhijliamnmiaa.Wi
open Go.RowKit WireMath
set_option maxRecDepth 100000
set_option linter.unusedSimpArgs false

end Go.Proofs.Ytghhijliamnmiaa.Wi

