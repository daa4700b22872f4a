/-
  No cell of these rows narrows 'for every input' (looked for: loops, veiled, ifaces, maps, wideKeys, modest, calm, conditions, laid).
  DERIVED. THE GIVEN ROWS OF THIS SEAT. 4 by the template 'for every input the law returns true; each argument reads behind the call as it read before'; 0 by the template 'total and deterministic' (their statements: YtglbjimpaoikfaaTotals.lean).
  GIVEN WITH THE SEED: the statements are not yours to turn. If you find one false, say at which input.
  Laid BY PROGRAM, IN A SANDBOX (cutbox-rows.mjs): the forced cells as the released guide's own fill.sh prints them over the translation 3a9a914e4e3f893c… (all of the seat's roots in one cut). By AI agents, Wed Nov 11 2026. No macro, syntax, notation, axiom, sorry.
-/
import Derived.Test.YtglbjimpaoikfaaChecked
import GoSem.Claim
import GoSem.ClaimJoined
import GoSem.ClaimMapViews
import Derived.JoinedTies
import Derived.KernelRfl
namespace Go.Proofs.Ytglbjimpaoikfaa
/- THE CELL 'sum', in the pinned program and in every row, IS THE sha256 OF THE DUMP (.gsa) THAT YtglbjimpaoikfaaProg.lean LOADS. Nothing in Lean hashes anything: it is a label: what it is worth is what the hold of that sum in a sandbox is worth. -/
noncomputable def Try.pinned : Pinned := { name := "ytglbjimpaoikfaa", sum := "3a9a914e4e3f893c511048395284bca1a298aa9f5e70e8186f204da17575e1fa", checked := Try.checked }
namespace Rows
def none {H : Type} : Left H := { results := [], args := [] }

/-- 'gudgeonlaw20.TxnChecks': WHATEVER THE INPUT: true; the input reads as it did. -/
def txnChecksSpec : ChangeSpec := { name := "txnChecks", fn := fun _ => fun
  | [d] => { results := [.lit (.bool true)], args := [d] }
  | _ => none }
def txnChecksRow : OpenClaim := { program := "ytglbjimpaoikfaa", sum := "3a9a914e4e3f893c511048395284bca1a298aa9f5e70e8186f204da17575e1fa", func := "gudgeon/gudgeonlaw20.TxnChecks", spec := "txnChecks", inPlace := ["slices.overlaps[int]"], unfollowed := true, recurses := true, apart := false }
def TxnChecksSaid : Prop := txnChecksRow.holds Try.pinned (OpenSpec.ofChange txnChecksSpec)

/-- ITS FALSE NEIGHBOUR: 'it returns false'. Refute it at one input. -/
def txnChecksWrong : ChangeSpec := { name := "txnChecks", fn := fun _ => fun
  | [d] => { results := [.lit (.bool false)], args := [d] }
  | _ => none }
def TxnChecksWrongFalsely : Prop := txnChecksRow.holds Try.pinned (OpenSpec.ofChange txnChecksWrong)

/-- 'gudgeonlaw20.TxnTurns': WHATEVER THE INPUT: true; the input reads as it did. -/
def txnTurnsSpec : ChangeSpec := { name := "txnTurns", fn := fun _ => fun
  | [d1, d2] => { results := [.lit (.bool true)], args := [d1, d2] }
  | _ => none }
def txnTurnsRow : OpenClaim := { program := "ytglbjimpaoikfaa", sum := "3a9a914e4e3f893c511048395284bca1a298aa9f5e70e8186f204da17575e1fa", func := "gudgeon/gudgeonlaw20.TxnTurns", spec := "txnTurns", inPlace := ["slices.overlaps[int]"], unfollowed := true, recurses := true, apart := false }
def TxnTurnsSaid : Prop := txnTurnsRow.holds Try.pinned (OpenSpec.ofChange txnTurnsSpec)

/-- ITS FALSE NEIGHBOUR: 'it returns false'. Refute it at one input. -/
def txnTurnsWrong : ChangeSpec := { name := "txnTurns", fn := fun _ => fun
  | [d1, d2] => { results := [.lit (.bool false)], args := [d1, d2] }
  | _ => none }
def TxnTurnsWrongFalsely : Prop := txnTurnsRow.holds Try.pinned (OpenSpec.ofChange txnTurnsWrong)

/-- 'gudgeonlaw20.TxnDecides': WHATEVER THE INPUT: true; the input reads as it did. -/
def txnDecidesSpec : ChangeSpec := { name := "txnDecides", fn := fun _ => fun
  | [d1, d2] => { results := [.lit (.bool true)], args := [d1, d2] }
  | _ => none }
def txnDecidesRow : OpenClaim := { program := "ytglbjimpaoikfaa", sum := "3a9a914e4e3f893c511048395284bca1a298aa9f5e70e8186f204da17575e1fa", func := "gudgeon/gudgeonlaw20.TxnDecides", spec := "txnDecides", inPlace := ["slices.overlaps[int]"], unfollowed := true, recurses := true, apart := false }
def TxnDecidesSaid : Prop := txnDecidesRow.holds Try.pinned (OpenSpec.ofChange txnDecidesSpec)

/-- ITS FALSE NEIGHBOUR: 'it returns false'. Refute it at one input. -/
def txnDecidesWrong : ChangeSpec := { name := "txnDecides", fn := fun _ => fun
  | [d1, d2] => { results := [.lit (.bool false)], args := [d1, d2] }
  | _ => none }
def TxnDecidesWrongFalsely : Prop := txnDecidesRow.holds Try.pinned (OpenSpec.ofChange txnDecidesWrong)

/-- 'gudgeonlaw20.TxnEnds': WHATEVER THE INPUT: true; the input reads as it did. -/
def txnEndsSpec : ChangeSpec := { name := "txnEnds", fn := fun _ => fun
  | [d1, d2, d3] => { results := [.lit (.bool true)], args := [d1, d2, d3] }
  | _ => none }
def txnEndsRow : OpenClaim := { program := "ytglbjimpaoikfaa", sum := "3a9a914e4e3f893c511048395284bca1a298aa9f5e70e8186f204da17575e1fa", func := "gudgeon/gudgeonlaw20.TxnEnds", spec := "txnEnds", inPlace := ["slices.overlaps[int]"], unfollowed := true, recurses := true, apart := false }
def TxnEndsSaid : Prop := txnEndsRow.holds Try.pinned (OpenSpec.ofChange txnEndsSpec)

/-- ITS FALSE NEIGHBOUR: 'it returns false'. Refute it at one input. -/
def txnEndsWrong : ChangeSpec := { name := "txnEnds", fn := fun _ => fun
  | [d1, d2, d3] => { results := [.lit (.bool false)], args := [d1, d2, d3] }
  | _ => none }
def TxnEndsWrongFalsely : Prop := txnEndsRow.holds Try.pinned (OpenSpec.ofChange txnEndsWrong)

/- THE SECOND FORM. 'bulk': how many values and letters a reading holds, each counted each time it is reached (what is shared counts as often as it is met; a slice's spare places count too). A statement '..UptoSaid' is the law's where the arguments, and the package variables that the reading takes, are together of bulk at most 1048576: NARROWER than '..Said'. Prove '..Said' where nothing that the law and all that it calls make is longer than what came in: it says more and counts as full. Else prove '..UptoSaid'. A law counts once. -/
mutual
def uptoBulk {H : Type} : DataW H → Nat
  | .lit (.string bytes) => bytes.length + 1
  | .lit _ => 1
  | .nil => 1
  | .ptr d => uptoBulk d + 1
  | .slice elems spare => uptoBulkAll elems + uptoBulkAll spare + 1
  | .agg parts => uptoBulkAll parts + 1
  | .iface _ d => uptoBulk d + 1
  | .map entries => uptoBulkEntries entries + 1
  | .held _ => 1
def uptoBulkAll {H : Type} : List (DataW H) → Nat
  | [] => 0
  | d :: r => uptoBulk d + uptoBulkAll r
def uptoBulkEntries {H : Type} : List (Lit × DataW H) → Nat
  | [] => 0
  | x :: r => uptoBulkEntry x + uptoBulkEntries r
def uptoBulkEntry {H : Type} : Lit × DataW H → Nat
  | (.string bytes, d) => bytes.length + uptoBulk d + 1
  | (_, d) => uptoBulk d + 1
 end
def uptoSmall : (H : Type) → List (DataW H) → Bool := fun _ ds => decide (uptoBulkAll ds ≤ 1048576)
def OpenSpec.upto (s : _root_.Go.ChangeSpec) : _root_.Go.OpenSpec := { _root_.Go.OpenSpec.ofChange s with cond := some uptoSmall }

/-- 'gudgeonlaw20.TxnChecks', WHERE WHAT IT READS IS OF BULK AT MOST 1048576: true; the input reads as it did. -/
def txnChecksUptoRow : OpenClaim := { program := "ytglbjimpaoikfaa", sum := "3a9a914e4e3f893c511048395284bca1a298aa9f5e70e8186f204da17575e1fa", func := "gudgeon/gudgeonlaw20.TxnChecks", spec := "txnChecks", inPlace := ["slices.overlaps[int]"], unfollowed := true, recurses := true, apart := false, narrowed := true }
def TxnChecksUptoSaid : Prop := txnChecksUptoRow.holds Try.pinned (OpenSpec.upto txnChecksSpec)

/-- 'gudgeonlaw20.TxnTurns', WHERE WHAT IT READS IS OF BULK AT MOST 1048576: true; the input reads as it did. -/
def txnTurnsUptoRow : OpenClaim := { program := "ytglbjimpaoikfaa", sum := "3a9a914e4e3f893c511048395284bca1a298aa9f5e70e8186f204da17575e1fa", func := "gudgeon/gudgeonlaw20.TxnTurns", spec := "txnTurns", inPlace := ["slices.overlaps[int]"], unfollowed := true, recurses := true, apart := false, narrowed := true }
def TxnTurnsUptoSaid : Prop := txnTurnsUptoRow.holds Try.pinned (OpenSpec.upto txnTurnsSpec)

/-- 'gudgeonlaw20.TxnDecides', WHERE WHAT IT READS IS OF BULK AT MOST 1048576: true; the input reads as it did. -/
def txnDecidesUptoRow : OpenClaim := { program := "ytglbjimpaoikfaa", sum := "3a9a914e4e3f893c511048395284bca1a298aa9f5e70e8186f204da17575e1fa", func := "gudgeon/gudgeonlaw20.TxnDecides", spec := "txnDecides", inPlace := ["slices.overlaps[int]"], unfollowed := true, recurses := true, apart := false, narrowed := true }
def TxnDecidesUptoSaid : Prop := txnDecidesUptoRow.holds Try.pinned (OpenSpec.upto txnDecidesSpec)

/-- 'gudgeonlaw20.TxnEnds', WHERE WHAT IT READS IS OF BULK AT MOST 1048576: true; the input reads as it did. -/
def txnEndsUptoRow : OpenClaim := { program := "ytglbjimpaoikfaa", sum := "3a9a914e4e3f893c511048395284bca1a298aa9f5e70e8186f204da17575e1fa", func := "gudgeon/gudgeonlaw20.TxnEnds", spec := "txnEnds", inPlace := ["slices.overlaps[int]"], unfollowed := true, recurses := true, apart := false, narrowed := true }
def TxnEndsUptoSaid : Prop := txnEndsUptoRow.holds Try.pinned (OpenSpec.upto txnEndsSpec)

end Rows
end Go.Proofs.Ytglbjimpaoikfaa
