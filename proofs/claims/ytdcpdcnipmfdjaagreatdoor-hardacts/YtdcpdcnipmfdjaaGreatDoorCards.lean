/-
  DERIVED. GIVEN WITH THE SEED: THE CARDS: each row of YtdcpdcnipmfdjaaGreatDoorRows.lean that lists a variable, with what it lists TIED to the program's text (the seventh form; the later family's looks); each row that meets fmt, with fmt's text TOLD by the authors' own Lean function (tested against real Go, not proved from fmt's source: count such statements apart). THE CARD IS WHAT COUNTS. Prove the row's statement (the work); the ties are given (YtdcpdcnipmfdjaaGreatDoorTie.lean); close each card by the builder's one call (the guide's Derived/Test/ToyasCard.lean, 'card_holds'). Laid BY PROGRAM, IN A SANDBOX (cutbox-door.mjs). By AI agents, Wed Nov 11 2026. No macro, syntax, notation, axiom, sorry.
-/
import Derived.Test.YtdcpdcnipmfdjaaGreatDoorRows
import GoSem.ClaimSeven
namespace Go.Proofs.YtdcpdcnipmfdjaaGreatDoor
namespace Rows

/-- THE TIED CARD OF 'gudgeonlaw06.WalActs'. -/
def walActsCard : Claim7 := { stood := { row := walActsRow, standIns := [], harness := (true, "930e3548adf424ac2d4b5d80e8b9b1cf34a02c298ab4a32db9768a5f71ad6345"), looks := true }, kinds := [], alts := [], laidByText := true, laidKinds := [.data, .data, .data, .sentinel, .sentinel, .data], laidTests := true, laidLooks := .later }
def WalActsCardSaid : Prop := Claim7.holds Tryz.pinned (.plain (OpenSpec.ofChange walActsSpec)) walActsCard

/-- THE TIED CARD OF 'gudgeonlaw06.WalSafe'. -/
def walSafeCard : Claim7 := { stood := { row := walSafeRow, standIns := [], harness := (true, "930e3548adf424ac2d4b5d80e8b9b1cf34a02c298ab4a32db9768a5f71ad6345"), looks := true }, kinds := [], alts := [], laidByText := true, laidKinds := [.data, .data, .data, .sentinel, .sentinel, .data], laidTests := true, laidLooks := .later }
def WalSafeCardSaid : Prop := Claim7.holds Tryz.pinned (.plain (OpenSpec.ofChange walSafeSpec)) walSafeCard

/-- THE TIED CARD OF 'gudgeonlaw07.HardDecodes'. -/
def hardDecodesCard : Claim7 := { stood := { row := hardDecodesRow, standIns := [], harness := (true, "930e3548adf424ac2d4b5d80e8b9b1cf34a02c298ab4a32db9768a5f71ad6345"), looks := true }, kinds := [], alts := [], laidByText := true, laidKinds := [.data, .data, .data, .data], laidTests := true, laidLooks := .later }
def HardDecodesCardSaid : Prop := Claim7.holds Tryz.pinned (.plain (OpenSpec.ofChange hardDecodesSpec)) hardDecodesCard

/-- THE TIED CARD OF 'gudgeonlaw07.HardActs'. -/
def hardActsCard : Claim7 := { stood := { row := hardActsRow, standIns := [], harness := (true, "930e3548adf424ac2d4b5d80e8b9b1cf34a02c298ab4a32db9768a5f71ad6345"), looks := true }, kinds := [], alts := [], laidByText := true, laidKinds := [.data, .data, .data, .data], laidTests := true, laidLooks := .later }
def HardActsCardSaid : Prop := Claim7.holds Tryz.pinned (.plain (OpenSpec.ofChange hardActsSpec)) hardActsCard

/-- THE SECOND FORM's CARD OF 'gudgeonlaw06.WalActs'. -/
def walActsUptoCard : Claim7 := { stood := { row := walActsUptoRow, standIns := [], harness := (true, "930e3548adf424ac2d4b5d80e8b9b1cf34a02c298ab4a32db9768a5f71ad6345"), looks := true }, kinds := [], alts := [], laidByText := true, laidKinds := [.data, .data, .data, .sentinel, .sentinel, .data], laidTests := true, laidLooks := .later }
def WalActsUptoCardSaid : Prop := Claim7.holds Tryz.pinned (.plain (OpenSpec.upto walActsSpec)) walActsUptoCard

/-- THE SECOND FORM's CARD OF 'gudgeonlaw06.WalSafe'. -/
def walSafeUptoCard : Claim7 := { stood := { row := walSafeUptoRow, standIns := [], harness := (true, "930e3548adf424ac2d4b5d80e8b9b1cf34a02c298ab4a32db9768a5f71ad6345"), looks := true }, kinds := [], alts := [], laidByText := true, laidKinds := [.data, .data, .data, .sentinel, .sentinel, .data], laidTests := true, laidLooks := .later }
def WalSafeUptoCardSaid : Prop := Claim7.holds Tryz.pinned (.plain (OpenSpec.upto walSafeSpec)) walSafeUptoCard

/-- THE SECOND FORM's CARD OF 'gudgeonlaw07.HardDecodes'. -/
def hardDecodesUptoCard : Claim7 := { stood := { row := hardDecodesUptoRow, standIns := [], harness := (true, "930e3548adf424ac2d4b5d80e8b9b1cf34a02c298ab4a32db9768a5f71ad6345"), looks := true }, kinds := [], alts := [], laidByText := true, laidKinds := [.data, .data, .data, .data], laidTests := true, laidLooks := .later }
def HardDecodesUptoCardSaid : Prop := Claim7.holds Tryz.pinned (.plain (OpenSpec.upto hardDecodesSpec)) hardDecodesUptoCard

/-- THE SECOND FORM's CARD OF 'gudgeonlaw07.HardActs'. -/
def hardActsUptoCard : Claim7 := { stood := { row := hardActsUptoRow, standIns := [], harness := (true, "930e3548adf424ac2d4b5d80e8b9b1cf34a02c298ab4a32db9768a5f71ad6345"), looks := true }, kinds := [], alts := [], laidByText := true, laidKinds := [.data, .data, .data, .data], laidTests := true, laidLooks := .later }
def HardActsUptoCardSaid : Prop := Claim7.holds Tryz.pinned (.plain (OpenSpec.upto hardActsSpec)) hardActsUptoCard
end Rows
end Go.Proofs.YtdcpdcnipmfdjaaGreatDoor
