import Derived.Test.YtghhijliamnmiaaHo20
/- The contracts of a reader's fixed, Fixed4, Fixed8 and Byte: the number of the next bytes, or what was wrong; nothing but the reader's own block has turned. -/
namespace Go.Proofs.Ytghhijliamnmiaa.Wi
open Go.RowKit WireMath
set_option maxRecDepth 100000
set_option linter.unusedSimpArgs false

end Go.Proofs.Ytghhijliamnmiaa.Wi

