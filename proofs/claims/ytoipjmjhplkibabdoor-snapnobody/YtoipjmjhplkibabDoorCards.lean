/-
  DERIVED. GIVEN WITH THE SEED: THE CARDS: each row of YtoipjmjhplkibabDoorRows.lean that lists a variable, with what it lists TIED to the program's text (the seventh form; the later family's looks); each row that meets fmt, with fmt's text TOLD by the authors' own Lean function (tested against real Go, not proved from fmt's source: count such statements apart). THE CARD IS WHAT COUNTS. Prove the row's statement (the work); the ties are given (YtoipjmjhplkibabDoorTie.lean); close each card by the builder's one call (the guide's Derived/Test/ToyasCard.lean, 'card_holds'). Laid BY PROGRAM, IN A SANDBOX (cutbox-door.mjs). By AI agents, Wed Nov 11 2026. No macro, syntax, notation, axiom, sorry.
-/
import Derived.Test.YtoipjmjhplkibabDoorRows
import GoSem.ClaimSeven
namespace Go.Proofs.YtoipjmjhplkibabDoor
namespace Rows

/-- THE TIED CARD OF 'gudgeonlaw08.SnapNobody'. -/
def snapNobodyCard : Claim7 := { stood := { row := snapNobodyRow, standIns := [], harness := (true, "1ac158bc81a4618ab9adeb21bfadab5f5ac279053b4a687753495ce4869c6c31"), looks := false }, kinds := [], alts := [], laidByText := true, laidKinds := [.data, .data, .data, .data], laidTests := true, laidLooks := .later }
def SnapNobodyCardSaid : Prop := Claim7.holds Tryd.pinned (.plain (OpenSpec.ofChange snapNobodySpec)) snapNobodyCard

/-- THE SECOND FORM's CARD OF 'gudgeonlaw08.SnapNobody'. -/
def snapNobodyUptoCard : Claim7 := { stood := { row := snapNobodyUptoRow, standIns := [], harness := (true, "1ac158bc81a4618ab9adeb21bfadab5f5ac279053b4a687753495ce4869c6c31"), looks := false }, kinds := [], alts := [], laidByText := true, laidKinds := [.data, .data, .data, .data], laidTests := true, laidLooks := .later }
def SnapNobodyUptoCardSaid : Prop := Claim7.holds Tryd.pinned (.plain (OpenSpec.upto snapNobodySpec)) snapNobodyUptoCard
end Rows
end Go.Proofs.YtoipjmjhplkibabDoor
