import Derived.Test.YtglbjimpaoikfaaHe37
/- The document's Voted. -/
namespace Go.Proofs.Ytglbjimpaoikfaa
open Go.RowKit LeaseMath QuorumMath
set_option maxRecDepth 100000
set_option linter.unusedSimpArgs false
set_option linter.unusedVariables false

/-- What is read whenever the given record is, and the memory made meanwhile stands. -/
def KX (w w' : World) (z u : Xz) : Prop := ∀ W : World, XR W z → (∀ k, w.heap.size ≤ k → k < w'.heap.size → W.heap[k]? = w'.heap[k]?) → XR W u
theorem XR.setV {w : World} {x : Tx} {k g y d : Sa} (c : Int) (h : XR w ⟨x, k, g, y, d⟩) : XR w ⟨setV x c, k, g, y, d⟩ := h
end Go.Proofs.Ytglbjimpaoikfaa

