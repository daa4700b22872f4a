import Derived.Test.YtebkfkijlopmoaaHo09
import Derived.Test.YtebkfkijlopmoaaHo11
import Derived.Test.YtebkfkijlopmoaaHo12
/- The contracts of the document's ReadUvarint, ReadVarint and ReadFixed: they tell, and leave, what the program's readers do. -/
namespace Go.Proofs.Ytebkfkijlopmoaa.Wi
open Go.RowKit WireMath
set_option maxRecDepth 100000
set_option linter.unusedSimpArgs false

end Go.Proofs.Ytebkfkijlopmoaa.Wi

