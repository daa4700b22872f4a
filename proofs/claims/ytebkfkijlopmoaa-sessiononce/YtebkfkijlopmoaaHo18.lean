import Derived.Test.YtebkfkijlopmoaaHo17
import Derived.Deep.RegionWith
import Derived.PlainAid
import Derived.Laws.Bits64b
/- The contract of the law's own written: an item's bytes behind what was there, by the program, and by the document; what lay in memory before stays as it was. -/
namespace Go.Proofs.Ytebkfkijlopmoaa.Wi
open Go.RowKit WireMath
set_option maxRecDepth 100000
set_option linter.unusedSimpArgs false

end Go.Proofs.Ytebkfkijlopmoaa.Wi

