/-
  DERIVED. GIVEN WITH THE SEED: THE CARDS: each row of YtfpaajoggbibnaaGreatDoorRows.lean that lists a variable, with what it lists TIED to the program's text (the seventh form; the later family's looks); each row that meets fmt, with fmt's text TOLD by the authors' own Lean function (tested against real Go, not proved from fmt's source: count such statements apart). THE CARD IS WHAT COUNTS. Prove the row's statement (the work); the ties are given (YtfpaajoggbibnaaGreatDoorTie.lean); close each card by the builder's one call (the guide's Derived/Test/ToyasCard.lean, 'card_holds'). Laid BY PROGRAM, IN A SANDBOX (cutbox-door.mjs). By AI agents, Wed Nov 11 2026. No macro, syntax, notation, axiom, sorry.
-/
import Derived.Test.YtfpaajoggbibnaaGreatDoorRows
import GoSem.ClaimSeven
namespace Go.Proofs.YtfpaajoggbibnaaGreatDoor
namespace Rows

/-- THE TIED CARD OF 'hollowaylaw9.InnerSteps'. -/
def innerStepsCard : Claim7 := { stood := { row := innerStepsRow, standIns := [], harness := (true, "ce68df2e644c1b368adf3b305a064b70f87821c408c92931a603250e3c3dd16b"), looks := true }, kinds := [], alts := [], laidByText := true, laidKinds := [.data, .data, .data, .data, .data, .handle, .pinned, .pinned], laidTests := true, laidLooks := .later }
def InnerStepsCardSaid : Prop := Claim7.holds Tryz.pinned (.plain (OpenSpec.ofChange innerStepsSpec)) innerStepsCard

/-- THE TIED CARD OF 'hollowaylaw9.InnerBegins'. -/
def innerBeginsCard : Claim7 := { stood := { row := innerBeginsRow, standIns := [], harness := (true, "ce68df2e644c1b368adf3b305a064b70f87821c408c92931a603250e3c3dd16b"), looks := true }, kinds := [], alts := [], laidByText := true, laidKinds := [.data, .data, .data, .data, .data, .handle, .pinned, .pinned], laidTests := true, laidLooks := .later }
def InnerBeginsCardSaid : Prop := Claim7.holds Tryz.pinned (.plain (OpenSpec.ofChange innerBeginsSpec)) innerBeginsCard

/-- THE SECOND FORM's CARD OF 'hollowaylaw9.InnerSteps'. -/
def innerStepsUptoCard : Claim7 := { stood := { row := innerStepsUptoRow, standIns := [], harness := (true, "ce68df2e644c1b368adf3b305a064b70f87821c408c92931a603250e3c3dd16b"), looks := true }, kinds := [], alts := [], laidByText := true, laidKinds := [.data, .data, .data, .data, .data, .handle, .pinned, .pinned], laidTests := true, laidLooks := .later }
def InnerStepsUptoCardSaid : Prop := Claim7.holds Tryz.pinned (.plain (OpenSpec.upto innerStepsSpec)) innerStepsUptoCard

/-- THE SECOND FORM's CARD OF 'hollowaylaw9.InnerBegins'. -/
def innerBeginsUptoCard : Claim7 := { stood := { row := innerBeginsUptoRow, standIns := [], harness := (true, "ce68df2e644c1b368adf3b305a064b70f87821c408c92931a603250e3c3dd16b"), looks := true }, kinds := [], alts := [], laidByText := true, laidKinds := [.data, .data, .data, .data, .data, .handle, .pinned, .pinned], laidTests := true, laidLooks := .later }
def InnerBeginsUptoCardSaid : Prop := Claim7.holds Tryz.pinned (.plain (OpenSpec.upto innerBeginsSpec)) innerBeginsUptoCard
end Rows
end Go.Proofs.YtfpaajoggbibnaaGreatDoor
