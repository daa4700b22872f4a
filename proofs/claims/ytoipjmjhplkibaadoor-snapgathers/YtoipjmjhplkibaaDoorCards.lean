/-
  DERIVED. GIVEN WITH THE SEED: THE CARDS: each row of YtoipjmjhplkibaaDoorRows.lean that lists a variable, with what it lists TIED to the program's text (the seventh form; the later family's looks); each row that meets fmt, with fmt's text TOLD by the authors' own Lean function (tested against real Go, not proved from fmt's source: count such statements apart). THE CARD IS WHAT COUNTS. Prove the row's statement (the work); the ties are given (YtoipjmjhplkibaaDoorTie.lean); close each card by the builder's one call (the guide's Derived/Test/ToyasCard.lean, 'card_holds'). Laid BY PROGRAM, IN A SANDBOX (cutbox-door.mjs). By AI agents, Wed Nov 11 2026. No macro, syntax, notation, axiom, sorry.
-/
import Derived.Test.YtoipjmjhplkibaaDoorRows
import GoSem.ClaimSeven
namespace Go.Proofs.YtoipjmjhplkibaaDoor
namespace Rows

/-- THE TIED CARD OF 'gudgeonlaw08.SnapChunks'. -/
def snapChunksCard : Claim7 := { stood := { row := snapChunksRow, standIns := [], harness := (true, "eafab8172eb5d07322571083a62fedb9731a2d73f27afa4bd3e406aa66a73fdd"), looks := false }, kinds := [], alts := [], laidByText := true, laidKinds := [.data, .data, .data, .data], laidTests := true, laidLooks := .later }
def SnapChunksCardSaid : Prop := Claim7.holds Tryd.pinned (.plain (OpenSpec.ofChange snapChunksSpec)) snapChunksCard

/-- THE TIED CARD OF 'gudgeonlaw08.SnapGathers'. -/
def snapGathersCard : Claim7 := { stood := { row := snapGathersRow, standIns := [], harness := (true, "eafab8172eb5d07322571083a62fedb9731a2d73f27afa4bd3e406aa66a73fdd"), looks := false }, kinds := [], alts := [], laidByText := true, laidKinds := [.data, .data, .data, .data], laidTests := true, laidLooks := .later }
def SnapGathersCardSaid : Prop := Claim7.holds Tryd.pinned (.plain (OpenSpec.ofChange snapGathersSpec)) snapGathersCard

/-- THE SECOND FORM's CARD OF 'gudgeonlaw08.SnapChunks'. -/
def snapChunksUptoCard : Claim7 := { stood := { row := snapChunksUptoRow, standIns := [], harness := (true, "eafab8172eb5d07322571083a62fedb9731a2d73f27afa4bd3e406aa66a73fdd"), looks := false }, kinds := [], alts := [], laidByText := true, laidKinds := [.data, .data, .data, .data], laidTests := true, laidLooks := .later }
def SnapChunksUptoCardSaid : Prop := Claim7.holds Tryd.pinned (.plain (OpenSpec.upto snapChunksSpec)) snapChunksUptoCard

/-- THE SECOND FORM's CARD OF 'gudgeonlaw08.SnapGathers'. -/
def snapGathersUptoCard : Claim7 := { stood := { row := snapGathersUptoRow, standIns := [], harness := (true, "eafab8172eb5d07322571083a62fedb9731a2d73f27afa4bd3e406aa66a73fdd"), looks := false }, kinds := [], alts := [], laidByText := true, laidKinds := [.data, .data, .data, .data], laidTests := true, laidLooks := .later }
def SnapGathersUptoCardSaid : Prop := Claim7.holds Tryd.pinned (.plain (OpenSpec.upto snapGathersSpec)) snapGathersUptoCard
end Rows
end Go.Proofs.YtoipjmjhplkibaaDoor
