/-
  DERIVED. GIVEN WITH THE SEED: THE CARDS: each row of YtcpdhfigaoaohaaDoorRows.lean that lists a variable, with what it lists TIED to the program's text (the seventh form; the later family's looks); each row that meets fmt, with fmt's text TOLD by the authors' own Lean function (tested against real Go, not proved from fmt's source: count such statements apart). THE CARD IS WHAT COUNTS. Prove the row's statement (the work); the ties are given (YtcpdhfigaoaohaaDoorTie.lean); close each card by the builder's one call (the guide's Derived/Test/ToyasCard.lean, 'card_holds'). Laid BY PROGRAM, IN A SANDBOX (cutbox-door.mjs). By AI agents, Wed Nov 11 2026. No macro, syntax, notation, axiom, sorry.
-/
import Derived.Test.YtcpdhfigaoaohaaDoorRows
import GoSem.ClaimSeven
namespace Go.Proofs.YtcpdhfigaoaohaaDoor
namespace Rows

/-- THE TIED CARD OF 'hollowaylaw10.WeavePlays'. -/
def weavePlaysCard : Claim7 := { stood := { row := weavePlaysRow, standIns := [], harness := (true, "18e3059162da372645902bda33ecd53b3be431e96aa11ae80ab84e4c263504ff"), looks := false }, kinds := [], alts := [], laidByText := true, laidKinds := [.data], laidTests := true, laidLooks := .later }
def WeavePlaysCardSaid : Prop := Claim7.holds Tryd.pinned (.plain (OpenSpec.ofChange weavePlaysSpec)) weavePlaysCard

/-- THE SECOND FORM's CARD OF 'hollowaylaw10.WeavePlays'. -/
def weavePlaysUptoCard : Claim7 := { stood := { row := weavePlaysUptoRow, standIns := [], harness := (true, "18e3059162da372645902bda33ecd53b3be431e96aa11ae80ab84e4c263504ff"), looks := false }, kinds := [], alts := [], laidByText := true, laidKinds := [.data], laidTests := true, laidLooks := .later }
def WeavePlaysUptoCardSaid : Prop := Claim7.holds Tryd.pinned (.plain (OpenSpec.upto weavePlaysSpec)) weavePlaysUptoCard
end Rows
end Go.Proofs.YtcpdhfigaoaohaaDoor
