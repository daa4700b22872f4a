import Derived.Test.YtebkfkijlopmoaaHo10
/- The contracts of a reader's peek, Uvarint and Varint: the next number, or what was wrong; nothing but the reader's own block has turned. -/
namespace Go.Proofs.Ytebkfkijlopmoaa.Wi
open Go.RowKit WireMath
set_option maxRecDepth 100000
set_option linter.unusedSimpArgs false

end Go.Proofs.Ytebkfkijlopmoaa.Wi

