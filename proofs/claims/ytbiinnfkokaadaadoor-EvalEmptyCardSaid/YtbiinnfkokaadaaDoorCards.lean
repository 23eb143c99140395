/-
  DERIVED. GIVEN WITH THE SEED: THE CARDS: each row of YtbiinnfkokaadaaDoorRows.lean that lists a variable, with what it lists TIED to the program's text (the seventh form; the later family's looks); each row that meets fmt, with fmt's text TOLD by the authors' own Lean function (tested against real Go, not proved from fmt's source: count such statements apart). THE CARD IS WHAT COUNTS. Prove the row's statement (the work); the ties are given (YtbiinnfkokaadaaDoorTie.lean); close each card by the builder's one call (the guide's Derived/Test/ToyasCard.lean, 'card_holds'). Laid BY PROGRAM, IN A SANDBOX (cutbox-door.mjs). By AI agents, Wed Nov 11 2026. No macro, syntax, notation, axiom, sorry.
-/
import Derived.Test.YtbiinnfkokaadaaDoorRows
import GoSem.ClaimSeven
namespace Go.Proofs.YtbiinnfkokaadaaDoor
namespace Rows

/-- THE TIED CARD OF 'hollowaylaw15.EvalWatched'. -/
def evalWatchedCard : Claim7 := { stood := { row := evalWatchedRow, standIns := [], harness := (true, "bca536e6eb1e0145e2687c2f1046578160b2978246497539fdd6d9509f291801"), looks := false }, kinds := [], alts := [], laidByText := true, laidKinds := [.data, .data, .data, .data, .pinned, .pinned], laidTests := true, laidLooks := .later }
def EvalWatchedCardSaid : Prop := Claim7.holds Tryd.pinned (.plain (OpenSpec.ofChange evalWatchedSpec)) evalWatchedCard

/-- THE TIED CARD OF 'hollowaylaw15.EvalEmpty'. -/
def evalEmptyCard : Claim7 := { stood := { row := evalEmptyRow, standIns := [], harness := (true, "bca536e6eb1e0145e2687c2f1046578160b2978246497539fdd6d9509f291801"), looks := false }, kinds := [], alts := [], laidByText := true, laidKinds := [.data, .data, .data, .data, .pinned, .pinned], laidTests := true, laidLooks := .later }
def EvalEmptyCardSaid : Prop := Claim7.holds Tryd.pinned (.plain (OpenSpec.ofChange evalEmptySpec)) evalEmptyCard

/-- THE TIED CARD OF 'hollowaylaw15.EvalGuards'. -/
def evalGuardsCard : Claim7 := { stood := { row := evalGuardsRow, standIns := [], harness := (true, "bca536e6eb1e0145e2687c2f1046578160b2978246497539fdd6d9509f291801"), looks := false }, kinds := [], alts := [], laidByText := true, laidKinds := [.data, .data, .data, .data, .pinned, .pinned], laidTests := true, laidLooks := .later }
def EvalGuardsCardSaid : Prop := Claim7.holds Tryd.pinned (.plain (OpenSpec.ofChange evalGuardsSpec)) evalGuardsCard

/-- THE SECOND FORM's CARD OF 'hollowaylaw15.EvalWatched'. -/
def evalWatchedUptoCard : Claim7 := { stood := { row := evalWatchedUptoRow, standIns := [], harness := (true, "bca536e6eb1e0145e2687c2f1046578160b2978246497539fdd6d9509f291801"), looks := false }, kinds := [], alts := [], laidByText := true, laidKinds := [.data, .data, .data, .data, .pinned, .pinned], laidTests := true, laidLooks := .later }
def EvalWatchedUptoCardSaid : Prop := Claim7.holds Tryd.pinned (.plain (OpenSpec.upto evalWatchedSpec)) evalWatchedUptoCard

/-- THE SECOND FORM's CARD OF 'hollowaylaw15.EvalEmpty'. -/
def evalEmptyUptoCard : Claim7 := { stood := { row := evalEmptyUptoRow, standIns := [], harness := (true, "bca536e6eb1e0145e2687c2f1046578160b2978246497539fdd6d9509f291801"), looks := false }, kinds := [], alts := [], laidByText := true, laidKinds := [.data, .data, .data, .data, .pinned, .pinned], laidTests := true, laidLooks := .later }
def EvalEmptyUptoCardSaid : Prop := Claim7.holds Tryd.pinned (.plain (OpenSpec.upto evalEmptySpec)) evalEmptyUptoCard

/-- THE SECOND FORM's CARD OF 'hollowaylaw15.EvalGuards'. -/
def evalGuardsUptoCard : Claim7 := { stood := { row := evalGuardsUptoRow, standIns := [], harness := (true, "bca536e6eb1e0145e2687c2f1046578160b2978246497539fdd6d9509f291801"), looks := false }, kinds := [], alts := [], laidByText := true, laidKinds := [.data, .data, .data, .data, .pinned, .pinned], laidTests := true, laidLooks := .later }
def EvalGuardsUptoCardSaid : Prop := Claim7.holds Tryd.pinned (.plain (OpenSpec.upto evalGuardsSpec)) evalGuardsUptoCard
end Rows
end Go.Proofs.YtbiinnfkokaadaaDoor
