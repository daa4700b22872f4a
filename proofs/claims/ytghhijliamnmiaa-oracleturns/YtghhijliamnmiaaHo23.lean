import Derived.Test.YtghhijliamnmiaaHo20
/- The contract of a reader's Bytes where there are enough: the bytes, in memory of their own; nothing but the reader's own block has turned. -/
namespace Go.Proofs.Ytghhijliamnmiaa.Wi
open Go.RowKit WireMath
set_option maxRecDepth 100000
set_option linter.unusedSimpArgs false

end Go.Proofs.Ytghhijliamnmiaa.Wi

