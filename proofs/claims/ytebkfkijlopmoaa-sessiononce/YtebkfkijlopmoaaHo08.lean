import Derived.Test.YtebkfkijlopmoaaHo07
/- The contracts of a reader's rest, fail and skip. -/
namespace Go.Proofs.Ytebkfkijlopmoaa.Wi
open Go.RowKit WireMath
set_option maxRecDepth 100000
set_option linter.unusedSimpArgs false

end Go.Proofs.Ytebkfkijlopmoaa.Wi

