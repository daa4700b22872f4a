import Derived.Test.YtglbjimpaoikfaaHe10
import Derived.Test.YtglbjimpaoikfaaRows
import Derived.Deep.SlicePairs
import Derived.ProofKit
import Derived.Lib.SmallJoins
import Derived.SizedLaws
/- What came in: holds, marks, keys, numbers. -/
namespace Go.Proofs.Ytglbjimpaoikfaa
open Go.ChangeShapes Go.WideShapes Go.RowKit LeaseMath
set_option maxRecDepth 100000
set_option linter.unusedSimpArgs false
set_option linter.unusedVariables false

theorem laidOut : laidOutB Try.prog = true := by kernel_rfl
theorem own : ownKnob Try.prog.godebug = none := by kernel_rfl
theorem u64_wf {z : Int} (h : (Lit.int .u64 z).wf = true) : ∃ n : Nat, z = (n : Int) ∧ n < 18446744073709551616 := by
  have g : IntKind.u64.min ≤ z ∧ z ≤ IntKind.u64.max := by simpa [Lit.wf] using h
  have g1 : (0 : Int) ≤ z := g.1
  have g2 : z ≤ 18446744073709551615 := g.2
  exact ⟨z.toNat, by omega, by omega⟩
end Go.Proofs.Ytglbjimpaoikfaa

