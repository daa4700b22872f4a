import Derived.Test.YtghhijliamnmiaaHo26
import Derived.Deep.RegionWith
import Derived.PlainAid
import Derived.Laws.Bits64b
/- The contract of the law's own written: an item's bytes behind what was there, by the program, and by the document; what lay in memory before stays as it was. -/
namespace Go.Proofs.Ytghhijliamnmiaa.Wi
open Go.RowKit WireMath
set_option maxRecDepth 100000
set_option linter.unusedSimpArgs false

end Go.Proofs.Ytghhijliamnmiaa.Wi

