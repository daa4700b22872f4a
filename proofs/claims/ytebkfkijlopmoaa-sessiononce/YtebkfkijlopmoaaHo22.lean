import Derived.Test.YtebkfkijlopmoaaHo07
/- The contract of a reader's Done. -/
namespace Go.Proofs.Ytebkfkijlopmoaa.Wi
open Go.RowKit WireMath
set_option maxRecDepth 100000
set_option linter.unusedSimpArgs false

end Go.Proofs.Ytebkfkijlopmoaa.Wi

