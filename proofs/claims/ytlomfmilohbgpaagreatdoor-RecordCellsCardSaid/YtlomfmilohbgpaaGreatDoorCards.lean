/-
  DERIVED. GIVEN WITH THE SEED: THE CARDS: each row of YtlomfmilohbgpaaGreatDoorRows.lean that lists a variable, with what it lists TIED to the program's text (the seventh form; the later family's looks); each row that meets fmt, with fmt's text TOLD by the authors' own Lean function (tested against real Go, not proved from fmt's source: count such statements apart). THE CARD IS WHAT COUNTS. Prove the row's statement (the work); the ties are given (YtlomfmilohbgpaaGreatDoorTie.lean); close each card by the builder's one call (the guide's Derived/Test/ToyasCard.lean, 'card_holds'). Laid BY PROGRAM, IN A SANDBOX (cutbox-door.mjs). By AI agents, Wed Nov 11 2026. No macro, syntax, notation, axiom, sorry.
-/
import Derived.Test.YtlomfmilohbgpaaGreatDoorRows
import GoSem.ClaimSeven
namespace Go.Proofs.YtlomfmilohbgpaaGreatDoor
namespace Rows

/-- THE TIED CARD OF 'hollowaylaw13.RecordCells'. -/
def recordCellsCard : Claim7 := { stood := { row := recordCellsRow, standIns := [], harness := (true, "3fd5f626a19770286a114695c81420d090e1f5c93eccacd88de30ccb7d86bde4"), looks := true }, kinds := [], alts := [], laidByText := true, laidKinds := [.data, .data, .data, .data, .data, .handle, .pinned, .pinned], laidTests := true, laidLooks := .later }
def RecordCellsCardSaid : Prop := Claim7.holds Tryz.pinned (.plain (OpenSpec.ofChange recordCellsSpec)) recordCellsCard

/-- THE SECOND FORM's CARD OF 'hollowaylaw13.RecordCells'. -/
def recordCellsUptoCard : Claim7 := { stood := { row := recordCellsUptoRow, standIns := [], harness := (true, "3fd5f626a19770286a114695c81420d090e1f5c93eccacd88de30ccb7d86bde4"), looks := true }, kinds := [], alts := [], laidByText := true, laidKinds := [.data, .data, .data, .data, .data, .handle, .pinned, .pinned], laidTests := true, laidLooks := .later }
def RecordCellsUptoCardSaid : Prop := Claim7.holds Tryz.pinned (.plain (OpenSpec.upto recordCellsSpec)) recordCellsUptoCard
end Rows
end Go.Proofs.YtlomfmilohbgpaaGreatDoor
