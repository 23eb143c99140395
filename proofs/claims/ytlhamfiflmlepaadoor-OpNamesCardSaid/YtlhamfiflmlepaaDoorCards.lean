/-
  DERIVED. GIVEN WITH THE SEED: THE CARDS: each row of YtlhamfiflmlepaaDoorRows.lean that lists a variable, with what it lists TIED to the program's text (the seventh form; the later family's looks); each row that meets fmt, with fmt's text TOLD by the authors' own Lean function (tested against real Go, not proved from fmt's source: count such statements apart). THE CARD IS WHAT COUNTS. Prove the row's statement (the work); the ties are given (YtlhamfiflmlepaaDoorTie.lean); close each card by the builder's one call (the guide's Derived/Test/ToyasCard.lean, 'card_holds'). Laid BY PROGRAM, IN A SANDBOX (cutbox-door.mjs). By AI agents, Wed Nov 11 2026. No macro, syntax, notation, axiom, sorry.
-/
import Derived.Test.YtlhamfiflmlepaaDoorRows
import GoSem.ClaimSeven
namespace Go.Proofs.YtlhamfiflmlepaaDoor
namespace Rows

/-- THE TIED CARD OF 'hollowaylaw6.OpTells'. -/
def opTellsCard : Claim7 := { stood := { row := opTellsRow, standIns := [], harness := (true, "b0870a7c20488fa473a3f0ffc4940a2fddd4e2cb8f2dba4714ad72d640c51b11"), looks := false }, kinds := [], alts := [], laidByText := true, laidKinds := [.data], laidTests := true, laidLooks := .later }
def OpTellsCardSaid : Prop := Claim7.holds Tryd.pinned (.plain (OpenSpec.ofChange opTellsSpec)) opTellsCard

/-- THE TIED CARD OF 'hollowaylaw6.OpBalance'. -/
def opBalanceCard : Claim7 := { stood := { row := opBalanceRow, standIns := [], harness := (true, "b0870a7c20488fa473a3f0ffc4940a2fddd4e2cb8f2dba4714ad72d640c51b11"), looks := false }, kinds := [], alts := [], laidByText := true, laidKinds := [.data], laidTests := true, laidLooks := .later }
def OpBalanceCardSaid : Prop := Claim7.holds Tryd.pinned (.plain (OpenSpec.ofChange opBalanceSpec)) opBalanceCard

/-- THE TIED CARD OF 'hollowaylaw6.OpNames'. -/
def opNamesCard : Claim7 := { stood := { row := opNamesRow, standIns := [], harness := (true, "b0870a7c20488fa473a3f0ffc4940a2fddd4e2cb8f2dba4714ad72d640c51b11"), looks := false }, kinds := [], alts := [], laidByText := true, laidKinds := [.data], laidTests := true, laidLooks := .later }
def OpNamesCardSaid : Prop := Claim7.holds Tryd.pinned (.plain (OpenSpec.ofChange opNamesSpec)) opNamesCard

/-- THE SECOND FORM's CARD OF 'hollowaylaw6.OpTells'. -/
def opTellsUptoCard : Claim7 := { stood := { row := opTellsUptoRow, standIns := [], harness := (true, "b0870a7c20488fa473a3f0ffc4940a2fddd4e2cb8f2dba4714ad72d640c51b11"), looks := false }, kinds := [], alts := [], laidByText := true, laidKinds := [.data], laidTests := true, laidLooks := .later }
def OpTellsUptoCardSaid : Prop := Claim7.holds Tryd.pinned (.plain (OpenSpec.upto opTellsSpec)) opTellsUptoCard

/-- THE SECOND FORM's CARD OF 'hollowaylaw6.OpBalance'. -/
def opBalanceUptoCard : Claim7 := { stood := { row := opBalanceUptoRow, standIns := [], harness := (true, "b0870a7c20488fa473a3f0ffc4940a2fddd4e2cb8f2dba4714ad72d640c51b11"), looks := false }, kinds := [], alts := [], laidByText := true, laidKinds := [.data], laidTests := true, laidLooks := .later }
def OpBalanceUptoCardSaid : Prop := Claim7.holds Tryd.pinned (.plain (OpenSpec.upto opBalanceSpec)) opBalanceUptoCard

/-- THE SECOND FORM's CARD OF 'hollowaylaw6.OpNames'. -/
def opNamesUptoCard : Claim7 := { stood := { row := opNamesUptoRow, standIns := [], harness := (true, "b0870a7c20488fa473a3f0ffc4940a2fddd4e2cb8f2dba4714ad72d640c51b11"), looks := false }, kinds := [], alts := [], laidByText := true, laidKinds := [.data], laidTests := true, laidLooks := .later }
def OpNamesUptoCardSaid : Prop := Claim7.holds Tryd.pinned (.plain (OpenSpec.upto opNamesSpec)) opNamesUptoCard
end Rows
end Go.Proofs.YtlhamfiflmlepaaDoor
