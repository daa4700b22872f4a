import Derived.Test.YtoipjmjhplkibaaDoorQ21
import Derived.Deep.RegionHeld3
/- The contract of the document's own Same, where both are the same files: true; nothing turns but the count of draws. -/
namespace Go.Proofs.YtoipjmjhplkibaaDoor
open Go.RowKit DiskMath
set_option maxRecDepth 100000
set_option linter.unusedSimpArgs false

end Go.Proofs.YtoipjmjhplkibaaDoor

