/-
  DERIVED. GIVEN WITH THE SEED: THE CARDS: each row of YtgabemlehmhgpaaDoorRows.lean that lists a variable, with what it lists TIED to the program's text (the seventh form; the later family's looks); each row that meets fmt, with fmt's text TOLD by the authors' own Lean function (tested against real Go, not proved from fmt's source: count such statements apart). THE CARD IS WHAT COUNTS. Prove the row's statement (the work); the ties are given (YtgabemlehmhgpaaDoorTie.lean); close each card by the builder's one call (the guide's Derived/Test/ToyasCard.lean, 'card_holds'). Laid BY PROGRAM, IN A SANDBOX (cutbox-door.mjs). By AI agents, Wed Nov 11 2026. No macro, syntax, notation, axiom, sorry.
-/
import Derived.Test.YtgabemlehmhgpaaDoorRows
import GoSem.ClaimSeven
namespace Go.Proofs.YtgabemlehmhgpaaDoor
namespace Rows

/-- THE TIED CARD OF 'hollowaylaw15.EvalWatched'. -/
def evalWatchedCard : Claim7 := { stood := { row := evalWatchedRow, standIns := [], harness := (true, "764fa22b0a92274615a2d2007decc75ac6dcd10264ffea33380e13c3788de354"), looks := false }, kinds := [], alts := [], laidByText := true, laidKinds := [.data, .data, .data, .data, .pinned, .pinned], laidTests := true, laidLooks := .later }
def EvalWatchedCardSaid : Prop := Claim7.holds Tryd.pinned (.plain (OpenSpec.ofChange evalWatchedSpec)) evalWatchedCard

/-- THE SECOND FORM's CARD OF 'hollowaylaw15.EvalWatched'. -/
def evalWatchedUptoCard : Claim7 := { stood := { row := evalWatchedUptoRow, standIns := [], harness := (true, "764fa22b0a92274615a2d2007decc75ac6dcd10264ffea33380e13c3788de354"), looks := false }, kinds := [], alts := [], laidByText := true, laidKinds := [.data, .data, .data, .data, .pinned, .pinned], laidTests := true, laidLooks := .later }
def EvalWatchedUptoCardSaid : Prop := Claim7.holds Tryd.pinned (.plain (OpenSpec.upto evalWatchedSpec)) evalWatchedUptoCard
end Rows
end Go.Proofs.YtgabemlehmhgpaaDoor
