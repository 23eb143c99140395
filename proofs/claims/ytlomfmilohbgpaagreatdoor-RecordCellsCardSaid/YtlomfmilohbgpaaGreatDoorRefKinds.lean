
/- The document's own answers on operations: which ones have two cells, or one; what they take and give; operands; which can be in a trace. -/
import Derived.Test.YtlomfmilohbgpaaGreatDoorRefOps
namespace Go.Proofs.YtlomfmilohbgpaaGreatDoor
open Go.RowKit
set_option linter.unusedSimpArgs false
set_option linter.unusedVariables false
def twoOf (k : Nat) : Bool := decide (11 ≤ k ∧ k ≤ 15 ∨ 17 ≤ k ∧ k ≤ 19 ∨ 21 ≤ k ∧ k ≤ 25 ∨ k = 28 ∨ k = 29)
def oneOf (k : Nat) : Bool := decide (k = 16 ∨ k = 20 ∨ k = 26 ∨ k = 27)
def argOf (k : Nat) : Bool := decide (k = 2 ∨ k = 3 ∨ k = 4 ∨ k = 37 ∨ k = 38)
def plainOf (k : Nat) : Bool := decide (k < 48 ∧ k ≠ 0 ∧ k ≠ 1 ∧ k ≠ 45 ∧ k ≠ 46)
end Go.Proofs.YtlomfmilohbgpaaGreatDoor
