/-
  DERIVED. GIVEN WITH THE SEED: THE CARDS: each row of YtffiknbdmdljoaaDoorRows.lean that lists a variable, with what it lists TIED to the program's text (the seventh form; the later family's looks); each row that meets fmt, with fmt's text TOLD by the authors' own Lean function (tested against real Go, not proved from fmt's source: count such statements apart). THE CARD IS WHAT COUNTS. Prove the row's statement (the work); the ties are given (YtffiknbdmdljoaaDoorTie.lean); close each card by the builder's one call (the guide's Derived/Test/ToyasCard.lean, 'card_holds'). Laid BY PROGRAM, IN A SANDBOX (cutbox-door.mjs). By AI agents, Wed Nov 11 2026. No macro, syntax, notation, axiom, sorry.
-/
import Derived.Test.YtffiknbdmdljoaaDoorRows
import GoSem.ClaimSeven
namespace Go.Proofs.YtffiknbdmdljoaaDoor
namespace Rows

/-- THE TIED CARD OF 'hollowaylaw10.WeavePlays'. -/
def weavePlaysCard : Claim7 := { stood := { row := weavePlaysRow, standIns := [], harness := (true, "33e614c515f76941968c2e65a30e55e51f0282fdf97cf7c60c5f30f9cba40423"), looks := false }, kinds := [], alts := [], laidByText := true, laidKinds := [.data], laidTests := true, laidLooks := .later }
def WeavePlaysCardSaid : Prop := Claim7.holds Tryd.pinned (.plain (OpenSpec.ofChange weavePlaysSpec)) weavePlaysCard

/-- THE TIED CARD OF 'hollowaylaw10.WeaveClosed'. -/
def weaveClosedCard : Claim7 := { stood := { row := weaveClosedRow, standIns := [], harness := (true, "33e614c515f76941968c2e65a30e55e51f0282fdf97cf7c60c5f30f9cba40423"), looks := false }, kinds := [], alts := [], laidByText := true, laidKinds := [.data], laidTests := true, laidLooks := .later }
def WeaveClosedCardSaid : Prop := Claim7.holds Tryd.pinned (.plain (OpenSpec.ofChange weaveClosedSpec)) weaveClosedCard

/-- THE TIED CARD OF 'hollowaylaw10.WeaveRoom'. -/
def weaveRoomCard : Claim7 := { stood := { row := weaveRoomRow, standIns := [], harness := (true, "33e614c515f76941968c2e65a30e55e51f0282fdf97cf7c60c5f30f9cba40423"), looks := false }, kinds := [], alts := [], laidByText := true, laidKinds := [.data], laidTests := true, laidLooks := .later }
def WeaveRoomCardSaid : Prop := Claim7.holds Tryd.pinned (.plain (OpenSpec.ofChange weaveRoomSpec)) weaveRoomCard

/-- THE SECOND FORM's CARD OF 'hollowaylaw10.WeavePlays'. -/
def weavePlaysUptoCard : Claim7 := { stood := { row := weavePlaysUptoRow, standIns := [], harness := (true, "33e614c515f76941968c2e65a30e55e51f0282fdf97cf7c60c5f30f9cba40423"), looks := false }, kinds := [], alts := [], laidByText := true, laidKinds := [.data], laidTests := true, laidLooks := .later }
def WeavePlaysUptoCardSaid : Prop := Claim7.holds Tryd.pinned (.plain (OpenSpec.upto weavePlaysSpec)) weavePlaysUptoCard

/-- THE SECOND FORM's CARD OF 'hollowaylaw10.WeaveClosed'. -/
def weaveClosedUptoCard : Claim7 := { stood := { row := weaveClosedUptoRow, standIns := [], harness := (true, "33e614c515f76941968c2e65a30e55e51f0282fdf97cf7c60c5f30f9cba40423"), looks := false }, kinds := [], alts := [], laidByText := true, laidKinds := [.data], laidTests := true, laidLooks := .later }
def WeaveClosedUptoCardSaid : Prop := Claim7.holds Tryd.pinned (.plain (OpenSpec.upto weaveClosedSpec)) weaveClosedUptoCard

/-- THE SECOND FORM's CARD OF 'hollowaylaw10.WeaveRoom'. -/
def weaveRoomUptoCard : Claim7 := { stood := { row := weaveRoomUptoRow, standIns := [], harness := (true, "33e614c515f76941968c2e65a30e55e51f0282fdf97cf7c60c5f30f9cba40423"), looks := false }, kinds := [], alts := [], laidByText := true, laidKinds := [.data], laidTests := true, laidLooks := .later }
def WeaveRoomUptoCardSaid : Prop := Claim7.holds Tryd.pinned (.plain (OpenSpec.upto weaveRoomSpec)) weaveRoomUptoCard
end Rows
end Go.Proofs.YtffiknbdmdljoaaDoor
