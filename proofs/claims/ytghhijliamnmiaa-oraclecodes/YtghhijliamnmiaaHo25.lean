import Derived.Test.YtghhijliamnmiaaHo24
/- The contracts of the program's Fixed4, Fixed8 and Bytes, and of the document's own Fixed and Bytes: the bytes behind what was there, in memory of the call's own; what lay in memory before stays as it was. -/
namespace Go.Proofs.Ytghhijliamnmiaa.Wi
open Go.RowKit WireMath
set_option maxRecDepth 100000
set_option linter.unusedSimpArgs false

end Go.Proofs.Ytghhijliamnmiaa.Wi

