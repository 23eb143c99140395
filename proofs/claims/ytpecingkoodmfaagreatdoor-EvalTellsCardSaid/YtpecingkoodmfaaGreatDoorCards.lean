/-
  DERIVED. GIVEN WITH THE SEED: THE CARDS: each row of YtpecingkoodmfaaGreatDoorRows.lean that lists a variable, with what it lists TIED to the program's text (the seventh form; the later family's looks); each row that meets fmt, with fmt's text TOLD by the authors' own Lean function (tested against real Go, not proved from fmt's source: count such statements apart). THE CARD IS WHAT COUNTS. Prove the row's statement (the work); the ties are given (YtpecingkoodmfaaGreatDoorTie.lean); close each card by the builder's one call (the guide's Derived/Test/ToyasCard.lean, 'card_holds'). Laid BY PROGRAM, IN A SANDBOX (cutbox-door.mjs). By AI agents, Wed Nov 11 2026. No macro, syntax, notation, axiom, sorry.
-/
import Derived.Test.YtpecingkoodmfaaGreatDoorRows
import GoSem.ClaimSeven
namespace Go.Proofs.YtpecingkoodmfaaGreatDoor
namespace Rows

/-- THE TIED CARD OF 'hollowaylaw14.IrTells'. -/
def irTellsCard : Claim7 := { stood := { row := irTellsRow, standIns := [], harness := (true, "90cb39edf110adf691c8ac4cf52215d190d7d373d3e0784ed4e6fd0d1d3a747d"), looks := false }, kinds := [], alts := [], laidByText := true, laidKinds := [.data, .data, .data, .data], laidTests := true, laidLooks := .later }
def IrTellsCardSaid : Prop := Claim7.holds Tryz.pinned (.plain (OpenSpec.ofChange irTellsSpec)) irTellsCard

/-- THE TIED CARD OF 'hollowaylaw15.EvalTells'. -/
def evalTellsCard : Claim7 := { stood := { row := evalTellsRow, standIns := [], harness := (true, "90cb39edf110adf691c8ac4cf52215d190d7d373d3e0784ed4e6fd0d1d3a747d"), looks := false }, kinds := [], alts := [], laidByText := true, laidKinds := [.data, .data, .data, .data, .pinned, .pinned], laidTests := true, laidLooks := .later }
def EvalTellsCardSaid : Prop := Claim7.holds Tryz.pinned (.plain (OpenSpec.ofChange evalTellsSpec)) evalTellsCard

/-- THE SECOND FORM's CARD OF 'hollowaylaw14.IrTells'. -/
def irTellsUptoCard : Claim7 := { stood := { row := irTellsUptoRow, standIns := [], harness := (true, "90cb39edf110adf691c8ac4cf52215d190d7d373d3e0784ed4e6fd0d1d3a747d"), looks := false }, kinds := [], alts := [], laidByText := true, laidKinds := [.data, .data, .data, .data], laidTests := true, laidLooks := .later }
def IrTellsUptoCardSaid : Prop := Claim7.holds Tryz.pinned (.plain (OpenSpec.upto irTellsSpec)) irTellsUptoCard

/-- THE SECOND FORM's CARD OF 'hollowaylaw15.EvalTells'. -/
def evalTellsUptoCard : Claim7 := { stood := { row := evalTellsUptoRow, standIns := [], harness := (true, "90cb39edf110adf691c8ac4cf52215d190d7d373d3e0784ed4e6fd0d1d3a747d"), looks := false }, kinds := [], alts := [], laidByText := true, laidKinds := [.data, .data, .data, .data, .pinned, .pinned], laidTests := true, laidLooks := .later }
def EvalTellsUptoCardSaid : Prop := Claim7.holds Tryz.pinned (.plain (OpenSpec.upto evalTellsSpec)) evalTellsUptoCard
end Rows
end Go.Proofs.YtpecingkoodmfaaGreatDoor
