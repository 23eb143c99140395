/-
  DERIVED. GIVEN WITH THE SEED: THE CARDS: each row of YtoajkbdadcepaaaDoorRows.lean that lists a variable, with what it lists TIED to the program's text (the seventh form; the later family's looks); each row that meets fmt, with fmt's text TOLD by the authors' own Lean function (tested against real Go, not proved from fmt's source: count such statements apart). THE CARD IS WHAT COUNTS. Prove the row's statement (the work); the ties are given (YtoajkbdadcepaaaDoorTie.lean); close each card by the builder's one call (the guide's Derived/Test/ToyasCard.lean, 'card_holds'). Laid BY PROGRAM, IN A SANDBOX (cutbox-door.mjs). By AI agents, Wed Nov 11 2026. No macro, syntax, notation, axiom, sorry.
-/
import Derived.Test.YtoajkbdadcepaaaDoorRows
import GoSem.ClaimSeven
namespace Go.Proofs.YtoajkbdadcepaaaDoor
namespace Rows

/-- THE TIED CARD OF 'hollowaylaw3.DigitsTell'. -/
def digitsTellCard : Claim7 := { stood := { row := digitsTellRow, standIns := [], harness := (true, "487acdbd5fb97dc1293fa2e89a38bf64b4ab1cebe4d3704df20d13185edf08af"), looks := false }, kinds := [], alts := [], laidByText := true, laidKinds := [.data, .data, .data, .data, .pinned, .pinned], laidTests := true, laidLooks := .later }
def DigitsTellCardSaid : Prop := Claim7.holds Tryd.pinned (.plain (OpenSpec.ofChange digitsTellSpec)) digitsTellCard

/-- THE TIED CARD OF 'hollowaylaw3.DigitsBack'. -/
def digitsBackCard : Claim7 := { stood := { row := digitsBackRow, standIns := [], harness := (true, "487acdbd5fb97dc1293fa2e89a38bf64b4ab1cebe4d3704df20d13185edf08af"), looks := false }, kinds := [], alts := [], laidByText := true, laidKinds := [.data, .data, .data, .data, .pinned, .pinned], laidTests := true, laidLooks := .later }
def DigitsBackCardSaid : Prop := Claim7.holds Tryd.pinned (.plain (OpenSpec.ofChange digitsBackSpec)) digitsBackCard

/-- THE TIED CARD OF 'hollowaylaw3.DigitsCase'. -/
def digitsCaseCard : Claim7 := { stood := { row := digitsCaseRow, standIns := [], harness := (true, "487acdbd5fb97dc1293fa2e89a38bf64b4ab1cebe4d3704df20d13185edf08af"), looks := false }, kinds := [], alts := [], laidByText := true, laidKinds := [.data, .data, .data, .data, .pinned, .pinned], laidTests := true, laidLooks := .later }
def DigitsCaseCardSaid : Prop := Claim7.holds Tryd.pinned (.plain (OpenSpec.ofChange digitsCaseSpec)) digitsCaseCard

/-- THE TIED CARD OF 'hollowaylaw3.DigitsOther'. -/
def digitsOtherCard : Claim7 := { stood := { row := digitsOtherRow, standIns := [], harness := (true, "487acdbd5fb97dc1293fa2e89a38bf64b4ab1cebe4d3704df20d13185edf08af"), looks := false }, kinds := [], alts := [], laidByText := true, laidKinds := [.data, .data, .data, .data, .pinned, .pinned], laidTests := true, laidLooks := .later }
def DigitsOtherCardSaid : Prop := Claim7.holds Tryd.pinned (.plain (OpenSpec.ofChange digitsOtherSpec)) digitsOtherCard

/-- THE SECOND FORM's CARD OF 'hollowaylaw3.DigitsTell'. -/
def digitsTellUptoCard : Claim7 := { stood := { row := digitsTellUptoRow, standIns := [], harness := (true, "487acdbd5fb97dc1293fa2e89a38bf64b4ab1cebe4d3704df20d13185edf08af"), looks := false }, kinds := [], alts := [], laidByText := true, laidKinds := [.data, .data, .data, .data, .pinned, .pinned], laidTests := true, laidLooks := .later }
def DigitsTellUptoCardSaid : Prop := Claim7.holds Tryd.pinned (.plain (OpenSpec.upto digitsTellSpec)) digitsTellUptoCard

/-- THE SECOND FORM's CARD OF 'hollowaylaw3.DigitsBack'. -/
def digitsBackUptoCard : Claim7 := { stood := { row := digitsBackUptoRow, standIns := [], harness := (true, "487acdbd5fb97dc1293fa2e89a38bf64b4ab1cebe4d3704df20d13185edf08af"), looks := false }, kinds := [], alts := [], laidByText := true, laidKinds := [.data, .data, .data, .data, .pinned, .pinned], laidTests := true, laidLooks := .later }
def DigitsBackUptoCardSaid : Prop := Claim7.holds Tryd.pinned (.plain (OpenSpec.upto digitsBackSpec)) digitsBackUptoCard

/-- THE SECOND FORM's CARD OF 'hollowaylaw3.DigitsCase'. -/
def digitsCaseUptoCard : Claim7 := { stood := { row := digitsCaseUptoRow, standIns := [], harness := (true, "487acdbd5fb97dc1293fa2e89a38bf64b4ab1cebe4d3704df20d13185edf08af"), looks := false }, kinds := [], alts := [], laidByText := true, laidKinds := [.data, .data, .data, .data, .pinned, .pinned], laidTests := true, laidLooks := .later }
def DigitsCaseUptoCardSaid : Prop := Claim7.holds Tryd.pinned (.plain (OpenSpec.upto digitsCaseSpec)) digitsCaseUptoCard

/-- THE SECOND FORM's CARD OF 'hollowaylaw3.DigitsOther'. -/
def digitsOtherUptoCard : Claim7 := { stood := { row := digitsOtherUptoRow, standIns := [], harness := (true, "487acdbd5fb97dc1293fa2e89a38bf64b4ab1cebe4d3704df20d13185edf08af"), looks := false }, kinds := [], alts := [], laidByText := true, laidKinds := [.data, .data, .data, .data, .pinned, .pinned], laidTests := true, laidLooks := .later }
def DigitsOtherUptoCardSaid : Prop := Claim7.holds Tryd.pinned (.plain (OpenSpec.upto digitsOtherSpec)) digitsOtherUptoCard
end Rows
end Go.Proofs.YtoajkbdadcepaaaDoor
