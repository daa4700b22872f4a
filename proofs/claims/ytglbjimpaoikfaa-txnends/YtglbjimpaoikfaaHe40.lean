import Derived.Test.YtglbjimpaoikfaaHe38
import Derived.Test.YtglbjimpaoikfaaHe39
/- The document's Applied. -/
namespace Go.Proofs.Ytglbjimpaoikfaa
open Go.RowKit LeaseMath QuorumMath
set_option maxRecDepth 100000
set_option linter.unusedSimpArgs false
set_option linter.unusedVariables false

theorem XR.close {w : World} {x : Tx} {k g y d : Sa} (b : Bool) (h : XR w ⟨x, k, g, y, d⟩) : XR w ⟨closeM x b, k, g, y, d⟩ := by
  unfold closeM
  split
  · exact h
  · exact h
def appliedM (x : Tx) (g : Int) (l : List Int) (b : Bool) : Tx × Int := if okX x = true then (if g ∈ x.groups then (if (decide (x.state = 2) || decide (x.state = 3)) = true then (if g ∈ x.done then (noX, 6) else (closeM (setD x l) b, 0)) else (noX, 7)) else (noX, 4)) else (noX, 1)
end Go.Proofs.Ytglbjimpaoikfaa

