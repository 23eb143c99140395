
/- The document's own answers on operations: names, operands, what they take and give. -/
import Derived.Test.YtlomfmilohbgpaaGreatDoorRows
import Derived.Test.YtlomfmilohbgpaaGreatDoorBookPlain
import Derived.WalkKit
import Derived.ProofKit
import Derived.Lib.Hide
namespace Go.Proofs.YtlomfmilohbgpaaGreatDoor
open Go.RowKit
set_option linter.unusedSimpArgs false
set_option linter.unusedVariables false
/-- the names of the operations -/
def opNames : List ByteArray := [⟨#[72, 65, 76, 84]⟩, ⟨#[69, 78, 68, 67, 65, 84, 67, 72]⟩, ⟨#[76, 73, 84]⟩, ⟨#[66, 82, 65, 78, 67, 72]⟩, ⟨#[48, 66, 82, 65, 78, 67, 72]⟩, ⟨#[69, 88, 73, 84]⟩, ⟨#[68, 85, 80]⟩, ⟨#[68, 82, 79, 80]⟩, ⟨#[83, 87, 65, 80]⟩, ⟨#[79, 86, 69, 82]⟩, ⟨#[82, 79, 84]⟩, ⟨#[43]⟩, ⟨#[45]⟩, ⟨#[42]⟩, ⟨#[47]⟩, ⟨#[77, 79, 68]⟩, ⟨#[78, 69, 71, 65, 84, 69]⟩, ⟨#[65, 78, 68]⟩, ⟨#[79, 82]⟩, ⟨#[88, 79, 82]⟩, ⟨#[73, 78, 86, 69, 82, 84]⟩, ⟨#[76, 83, 72, 73, 70, 84]⟩, ⟨#[82, 83, 72, 73, 70, 84]⟩, ⟨#[61]⟩, ⟨#[60]⟩, ⟨#[85, 60]⟩, ⟨#[48, 61]⟩, ⟨#[48, 60]⟩, ⟨#[77, 73, 78]⟩, ⟨#[77, 65, 88]⟩, ⟨#[64]⟩, ⟨#[33]⟩, ⟨#[43, 33]⟩, ⟨#[62, 82]⟩, ⟨#[82, 62]⟩, ⟨#[82, 64]⟩, ⟨#[40, 68, 79, 41]⟩, ⟨#[40, 76, 79, 79, 80, 41]⟩, ⟨#[40, 43, 76, 79, 79, 80, 41]⟩, ⟨#[74]⟩, ⟨#[85, 78, 76, 79, 79, 80]⟩, ⟨#[69, 77, 73, 84]⟩, ⟨#[46]⟩, ⟨#[75, 69, 89]⟩, ⟨#[69, 88, 69, 67, 85, 84, 69]⟩, ⟨#[84, 72, 82, 79, 87]⟩, ⟨#[67, 65, 84, 67, 72]⟩, ⟨#[78, 79, 80]⟩]
/-- what they take of both stacks, and give -/
def opMoves : List (Int × Int × Int × Int) := [(0, 0, 0, 0), (0, 0, 0, 0), (0, 0, 1, 0), (0, 0, 0, 0), (1, 0, 0, 0), (0, 1, 0, 0), (1, 0, 2, 0), (1, 0, 0, 0), (2, 0, 2, 0), (2, 0, 3, 0), (3, 0, 3, 0), (2, 0, 1, 0), (2, 0, 1, 0), (2, 0, 1, 0), (2, 0, 1, 0), (2, 0, 1, 0), (1, 0, 1, 0), (2, 0, 1, 0), (2, 0, 1, 0), (2, 0, 1, 0), (1, 0, 1, 0), (2, 0, 1, 0), (2, 0, 1, 0), (2, 0, 1, 0), (2, 0, 1, 0), (2, 0, 1, 0), (1, 0, 1, 0), (1, 0, 1, 0), (2, 0, 1, 0), (2, 0, 1, 0), (1, 0, 1, 0), (2, 0, 0, 0), (2, 0, 0, 0), (1, 0, 0, 1), (0, 1, 1, 0), (0, 1, 1, 1), (2, 0, 0, 2), (0, 2, 0, 2), (1, 2, 0, 2), (0, 3, 1, 3), (0, 2, 0, 0), (1, 0, 0, 0), (1, 0, 0, 0), (0, 0, 1, 0), (1, 0, 0, 1), (1, 0, 0, 0), (1, 0, 0, 4), (0, 0, 0, 0)]
theorem opNames_length : opNames.length = 48 := rfl
theorem opMoves_length : opMoves.length = 48 := rfl
/-- is it an operation? -/
abbrev isOp (a : Int) : Prop := 0 ≤ a ∧ a < 48
def nameOf (k : Nat) : ByteArray := opNames.getD k ⟨#[]⟩
def movesOf (k : Nat) : Int × Int × Int × Int := opMoves.getD k (0, 0, 0, 0)
end Go.Proofs.YtlomfmilohbgpaaGreatDoor
