/-
  DERIVED. GIVEN WITH THE SEED: THE CARDS: each row of YtgdmhildmdfagaaDoorRows.lean that lists a variable, with what it lists TIED to the program's text (the seventh form; the later family's looks); each row that meets fmt, with fmt's text TOLD by the authors' own Lean function (tested against real Go, not proved from fmt's source: count such statements apart). THE CARD IS WHAT COUNTS. Prove the row's statement (the work); the ties are given (YtgdmhildmdfagaaDoorTie.lean); close each card by the builder's one call (the guide's Derived/Test/ToyasCard.lean, 'card_holds'). Laid BY PROGRAM, IN A SANDBOX (cutbox-door.mjs). By AI agents, Wed Nov 11 2026. No macro, syntax, notation, axiom, sorry.
-/
import Derived.Test.YtgdmhildmdfagaaDoorRows
import GoSem.ClaimSeven
namespace Go.Proofs.YtgdmhildmdfagaaDoor
namespace Rows

/-- THE TIED CARD OF 'hollowaylaw14.IrSpoilt'. -/
def irSpoiltCard : Claim7 := { stood := { row := irSpoiltRow, standIns := [], harness := (true, "2bb877ed1bb76094dba541913ddc6e0c9afcec73056d344172b851753923149f"), looks := false }, kinds := [], alts := [], laidByText := true, laidKinds := [.data, .data, .data, .data], laidTests := true, laidLooks := .later }
def IrSpoiltCardSaid : Prop := Claim7.holds Tryd.pinned (.plain (OpenSpec.ofChange irSpoiltSpec)) irSpoiltCard

/-- THE TIED CARD OF 'hollowaylaw14.IrSame'. -/
def irSameCard : Claim7 := { stood := { row := irSameRow, standIns := [], harness := (true, "2bb877ed1bb76094dba541913ddc6e0c9afcec73056d344172b851753923149f"), looks := false }, kinds := [], alts := [], laidByText := true, laidKinds := [.data, .data, .data, .data], laidTests := true, laidLooks := .later }
def IrSameCardSaid : Prop := Claim7.holds Tryd.pinned (.plain (OpenSpec.ofChange irSameSpec)) irSameCard

/-- THE SECOND FORM's CARD OF 'hollowaylaw14.IrSpoilt'. -/
def irSpoiltUptoCard : Claim7 := { stood := { row := irSpoiltUptoRow, standIns := [], harness := (true, "2bb877ed1bb76094dba541913ddc6e0c9afcec73056d344172b851753923149f"), looks := false }, kinds := [], alts := [], laidByText := true, laidKinds := [.data, .data, .data, .data], laidTests := true, laidLooks := .later }
def IrSpoiltUptoCardSaid : Prop := Claim7.holds Tryd.pinned (.plain (OpenSpec.upto irSpoiltSpec)) irSpoiltUptoCard

/-- THE SECOND FORM's CARD OF 'hollowaylaw14.IrSame'. -/
def irSameUptoCard : Claim7 := { stood := { row := irSameUptoRow, standIns := [], harness := (true, "2bb877ed1bb76094dba541913ddc6e0c9afcec73056d344172b851753923149f"), looks := false }, kinds := [], alts := [], laidByText := true, laidKinds := [.data, .data, .data, .data], laidTests := true, laidLooks := .later }
def IrSameUptoCardSaid : Prop := Claim7.holds Tryd.pinned (.plain (OpenSpec.upto irSameSpec)) irSameUptoCard
end Rows
end Go.Proofs.YtgdmhildmdfagaaDoor
