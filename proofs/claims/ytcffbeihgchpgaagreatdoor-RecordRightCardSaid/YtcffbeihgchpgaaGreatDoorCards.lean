/-
  DERIVED. GIVEN WITH THE SEED: THE CARDS: each row of YtcffbeihgchpgaaGreatDoorRows.lean that lists a variable, with what it lists TIED to the program's text (the seventh form; the later family's looks); each row that meets fmt, with fmt's text TOLD by the authors' own Lean function (tested against real Go, not proved from fmt's source: count such statements apart). THE CARD IS WHAT COUNTS. Prove the row's statement (the work); the ties are given (YtcffbeihgchpgaaGreatDoorTie.lean); close each card by the builder's one call (the guide's Derived/Test/ToyasCard.lean, 'card_holds'). Laid BY PROGRAM, IN A SANDBOX (cutbox-door.mjs). By AI agents, Wed Nov 11 2026. No macro, syntax, notation, axiom, sorry.
-/
import Derived.Test.YtcffbeihgchpgaaGreatDoorRows
import GoSem.ClaimSeven
namespace Go.Proofs.YtcffbeihgchpgaaGreatDoor
namespace Rows

/-- THE TIED CARD OF 'hollowaylaw13.RecordTells'. -/
def recordTellsCard : Claim7 := { stood := { row := recordTellsRow, standIns := [], harness := (true, "3d2d59fce687bcd671e25e4d7c34017833943f639258b11cbc898310fc331765"), looks := true }, kinds := [], alts := [], laidByText := true, laidKinds := [.data, .data, .data, .data, .data, .handle, .pinned, .pinned], laidTests := true, laidLooks := .later }
def RecordTellsCardSaid : Prop := Claim7.holds Tryz.pinned (.plain (OpenSpec.ofChange recordTellsSpec)) recordTellsCard

/-- THE TIED CARD OF 'hollowaylaw13.RecordRight'. -/
def recordRightCard : Claim7 := { stood := { row := recordRightRow, standIns := [], harness := (true, "3d2d59fce687bcd671e25e4d7c34017833943f639258b11cbc898310fc331765"), looks := true }, kinds := [], alts := [], laidByText := true, laidKinds := [.data, .data, .data, .data, .data, .handle, .pinned, .pinned], laidTests := true, laidLooks := .later }
def RecordRightCardSaid : Prop := Claim7.holds Tryz.pinned (.plain (OpenSpec.ofChange recordRightSpec)) recordRightCard

/-- THE TIED CARD OF 'hollowaylaw13.RecordMost'. -/
def recordMostCard : Claim7 := { stood := { row := recordMostRow, standIns := [], harness := (true, "3d2d59fce687bcd671e25e4d7c34017833943f639258b11cbc898310fc331765"), looks := true }, kinds := [], alts := [], laidByText := true, laidKinds := [.data, .data, .data, .data, .data, .handle, .pinned, .pinned], laidTests := true, laidLooks := .later }
def RecordMostCardSaid : Prop := Claim7.holds Tryz.pinned (.plain (OpenSpec.ofChange recordMostSpec)) recordMostCard

/-- THE TIED CARD OF 'hollowaylaw13.RecordCells'. -/
def recordCellsCard : Claim7 := { stood := { row := recordCellsRow, standIns := [], harness := (true, "3d2d59fce687bcd671e25e4d7c34017833943f639258b11cbc898310fc331765"), looks := true }, kinds := [], alts := [], laidByText := true, laidKinds := [.data, .data, .data, .data, .data, .handle, .pinned, .pinned], laidTests := true, laidLooks := .later }
def RecordCellsCardSaid : Prop := Claim7.holds Tryz.pinned (.plain (OpenSpec.ofChange recordCellsSpec)) recordCellsCard

/-- THE TIED CARD OF 'hollowaylaw13.RecordStays'. -/
def recordStaysCard : Claim7 := { stood := { row := recordStaysRow, standIns := [], harness := (true, "3d2d59fce687bcd671e25e4d7c34017833943f639258b11cbc898310fc331765"), looks := true }, kinds := [], alts := [], laidByText := true, laidKinds := [.data, .data, .data, .data, .data, .handle, .pinned, .pinned], laidTests := true, laidLooks := .later }
def RecordStaysCardSaid : Prop := Claim7.holds Tryz.pinned (.plain (OpenSpec.ofChange recordStaysSpec)) recordStaysCard

/-- THE SECOND FORM's CARD OF 'hollowaylaw13.RecordTells'. -/
def recordTellsUptoCard : Claim7 := { stood := { row := recordTellsUptoRow, standIns := [], harness := (true, "3d2d59fce687bcd671e25e4d7c34017833943f639258b11cbc898310fc331765"), looks := true }, kinds := [], alts := [], laidByText := true, laidKinds := [.data, .data, .data, .data, .data, .handle, .pinned, .pinned], laidTests := true, laidLooks := .later }
def RecordTellsUptoCardSaid : Prop := Claim7.holds Tryz.pinned (.plain (OpenSpec.upto recordTellsSpec)) recordTellsUptoCard

/-- THE SECOND FORM's CARD OF 'hollowaylaw13.RecordRight'. -/
def recordRightUptoCard : Claim7 := { stood := { row := recordRightUptoRow, standIns := [], harness := (true, "3d2d59fce687bcd671e25e4d7c34017833943f639258b11cbc898310fc331765"), looks := true }, kinds := [], alts := [], laidByText := true, laidKinds := [.data, .data, .data, .data, .data, .handle, .pinned, .pinned], laidTests := true, laidLooks := .later }
def RecordRightUptoCardSaid : Prop := Claim7.holds Tryz.pinned (.plain (OpenSpec.upto recordRightSpec)) recordRightUptoCard

/-- THE SECOND FORM's CARD OF 'hollowaylaw13.RecordMost'. -/
def recordMostUptoCard : Claim7 := { stood := { row := recordMostUptoRow, standIns := [], harness := (true, "3d2d59fce687bcd671e25e4d7c34017833943f639258b11cbc898310fc331765"), looks := true }, kinds := [], alts := [], laidByText := true, laidKinds := [.data, .data, .data, .data, .data, .handle, .pinned, .pinned], laidTests := true, laidLooks := .later }
def RecordMostUptoCardSaid : Prop := Claim7.holds Tryz.pinned (.plain (OpenSpec.upto recordMostSpec)) recordMostUptoCard

/-- THE SECOND FORM's CARD OF 'hollowaylaw13.RecordCells'. -/
def recordCellsUptoCard : Claim7 := { stood := { row := recordCellsUptoRow, standIns := [], harness := (true, "3d2d59fce687bcd671e25e4d7c34017833943f639258b11cbc898310fc331765"), looks := true }, kinds := [], alts := [], laidByText := true, laidKinds := [.data, .data, .data, .data, .data, .handle, .pinned, .pinned], laidTests := true, laidLooks := .later }
def RecordCellsUptoCardSaid : Prop := Claim7.holds Tryz.pinned (.plain (OpenSpec.upto recordCellsSpec)) recordCellsUptoCard

/-- THE SECOND FORM's CARD OF 'hollowaylaw13.RecordStays'. -/
def recordStaysUptoCard : Claim7 := { stood := { row := recordStaysUptoRow, standIns := [], harness := (true, "3d2d59fce687bcd671e25e4d7c34017833943f639258b11cbc898310fc331765"), looks := true }, kinds := [], alts := [], laidByText := true, laidKinds := [.data, .data, .data, .data, .data, .handle, .pinned, .pinned], laidTests := true, laidLooks := .later }
def RecordStaysUptoCardSaid : Prop := Claim7.holds Tryz.pinned (.plain (OpenSpec.upto recordStaysSpec)) recordStaysUptoCard
end Rows
end Go.Proofs.YtcffbeihgchpgaaGreatDoor
