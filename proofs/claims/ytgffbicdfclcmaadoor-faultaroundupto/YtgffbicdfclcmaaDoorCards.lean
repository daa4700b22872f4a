/-
  DERIVED. GIVEN WITH THE SEED: THE CARDS: each row of YtgffbicdfclcmaaDoorRows.lean that lists a variable, with what it lists TIED to the program's text (the seventh form; the later family's looks); each row that meets fmt, with fmt's text TOLD by the authors' own Lean function (tested against real Go, not proved from fmt's source: count such statements apart). THE CARD IS WHAT COUNTS. Prove the row's statement (the work); the ties are given (YtgffbicdfclcmaaDoorTie.lean); close each card by the builder's one call (the guide's Derived/Test/ToyasCard.lean, 'card_holds'). Laid BY PROGRAM, IN A SANDBOX (cutbox-door.mjs). By AI agents, Wed Nov 11 2026. No macro, syntax, notation, axiom, sorry.
-/
import Derived.Test.YtgffbicdfclcmaaDoorRows
import GoSem.ClaimSeven
namespace Go.Proofs.YtgffbicdfclcmaaDoor
namespace Rows

/-- THE TIED CARD OF 'gudgeonlaw01.FaultTexts'. -/
def faultTextsCard : Claim7 := { stood := { row := faultTextsRow, standIns := [], harness := (true, "43264fe8e3963a993f3a8bf897393f11ae79298c27f95928f77a7ad8b5a23117"), looks := true }, kinds := [], alts := [], laidByText := true, laidKinds := [.handle], laidTests := true, laidLooks := .later }
def FaultTextsCardSaid : Prop := Claim7.holds Tryd.pinned (.plain (OpenSpec.ofChange faultTextsSpec)) faultTextsCard

/-- THE TIED CARD OF 'gudgeonlaw01.FaultCodes'. -/
def faultCodesCard : Claim7 := { stood := { row := faultCodesRow, standIns := [], harness := (true, "43264fe8e3963a993f3a8bf897393f11ae79298c27f95928f77a7ad8b5a23117"), looks := true }, kinds := [], alts := [], laidByText := true, laidKinds := [.handle], laidTests := true, laidLooks := .later }
def FaultCodesCardSaid : Prop := Claim7.holds Tryd.pinned (.plain (OpenSpec.ofChange faultCodesSpec)) faultCodesCard

/-- THE TIED CARD OF 'gudgeonlaw01.FaultAround'. -/
def faultAroundCard : Claim7 := { stood := { row := faultAroundRow, standIns := [], harness := (true, "43264fe8e3963a993f3a8bf897393f11ae79298c27f95928f77a7ad8b5a23117"), looks := true }, kinds := [], alts := [], laidByText := true, laidKinds := [.handle], laidTests := true, laidLooks := .later }
def FaultAroundCardSaid : Prop := Claim7.holds Tryd.pinned (.plain (OpenSpec.ofChange faultAroundSpec)) faultAroundCard

/-- THE TIED CARD OF 'gudgeonlaw01.FaultReacts'. -/
def faultReactsCard : Claim7 := { stood := { row := faultReactsRow, standIns := [], harness := (true, "43264fe8e3963a993f3a8bf897393f11ae79298c27f95928f77a7ad8b5a23117"), looks := true }, kinds := [], alts := [], laidByText := true, laidKinds := [.handle], laidTests := true, laidLooks := .later }
def FaultReactsCardSaid : Prop := Claim7.holds Tryd.pinned (.plain (OpenSpec.ofChange faultReactsSpec)) faultReactsCard

/-- THE TIED CARD OF 'gudgeonlaw01.FaultNobody'. -/
def faultNobodyCard : Claim7 := { stood := { row := faultNobodyRow, standIns := [], harness := (true, "43264fe8e3963a993f3a8bf897393f11ae79298c27f95928f77a7ad8b5a23117"), looks := true }, kinds := [], alts := [], laidByText := true, laidKinds := [.handle], laidTests := true, laidLooks := .later }
def FaultNobodyCardSaid : Prop := Claim7.holds Tryd.pinned (.plain (OpenSpec.ofChange faultNobodySpec)) faultNobodyCard

/-- THE SECOND FORM's CARD OF 'gudgeonlaw01.FaultTexts'. -/
def faultTextsUptoCard : Claim7 := { stood := { row := faultTextsUptoRow, standIns := [], harness := (true, "43264fe8e3963a993f3a8bf897393f11ae79298c27f95928f77a7ad8b5a23117"), looks := true }, kinds := [], alts := [], laidByText := true, laidKinds := [.handle], laidTests := true, laidLooks := .later }
def FaultTextsUptoCardSaid : Prop := Claim7.holds Tryd.pinned (.plain (OpenSpec.upto faultTextsSpec)) faultTextsUptoCard

/-- THE SECOND FORM's CARD OF 'gudgeonlaw01.FaultCodes'. -/
def faultCodesUptoCard : Claim7 := { stood := { row := faultCodesUptoRow, standIns := [], harness := (true, "43264fe8e3963a993f3a8bf897393f11ae79298c27f95928f77a7ad8b5a23117"), looks := true }, kinds := [], alts := [], laidByText := true, laidKinds := [.handle], laidTests := true, laidLooks := .later }
def FaultCodesUptoCardSaid : Prop := Claim7.holds Tryd.pinned (.plain (OpenSpec.upto faultCodesSpec)) faultCodesUptoCard

/-- THE SECOND FORM's CARD OF 'gudgeonlaw01.FaultAround'. -/
def faultAroundUptoCard : Claim7 := { stood := { row := faultAroundUptoRow, standIns := [], harness := (true, "43264fe8e3963a993f3a8bf897393f11ae79298c27f95928f77a7ad8b5a23117"), looks := true }, kinds := [], alts := [], laidByText := true, laidKinds := [.handle], laidTests := true, laidLooks := .later }
def FaultAroundUptoCardSaid : Prop := Claim7.holds Tryd.pinned (.plain (OpenSpec.upto faultAroundSpec)) faultAroundUptoCard

/-- THE SECOND FORM's CARD OF 'gudgeonlaw01.FaultReacts'. -/
def faultReactsUptoCard : Claim7 := { stood := { row := faultReactsUptoRow, standIns := [], harness := (true, "43264fe8e3963a993f3a8bf897393f11ae79298c27f95928f77a7ad8b5a23117"), looks := true }, kinds := [], alts := [], laidByText := true, laidKinds := [.handle], laidTests := true, laidLooks := .later }
def FaultReactsUptoCardSaid : Prop := Claim7.holds Tryd.pinned (.plain (OpenSpec.upto faultReactsSpec)) faultReactsUptoCard

/-- THE SECOND FORM's CARD OF 'gudgeonlaw01.FaultNobody'. -/
def faultNobodyUptoCard : Claim7 := { stood := { row := faultNobodyUptoRow, standIns := [], harness := (true, "43264fe8e3963a993f3a8bf897393f11ae79298c27f95928f77a7ad8b5a23117"), looks := true }, kinds := [], alts := [], laidByText := true, laidKinds := [.handle], laidTests := true, laidLooks := .later }
def FaultNobodyUptoCardSaid : Prop := Claim7.holds Tryd.pinned (.plain (OpenSpec.upto faultNobodySpec)) faultNobodyUptoCard
end Rows
end Go.Proofs.YtgffbicdfclcmaaDoor
