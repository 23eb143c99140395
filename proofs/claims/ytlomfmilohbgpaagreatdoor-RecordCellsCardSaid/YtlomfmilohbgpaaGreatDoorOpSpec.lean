
/- What package op answers, by the document: the forms in which its walks are wanted. -/
import Derived.Test.YtlomfmilohbgpaaGreatDoorOpPlain
namespace Go.Proofs.YtlomfmilohbgpaaGreatDoor
open Go.RowKit
/-- the number that a name names; 0 of none -/
def ofI (s : ByteArray) : Int := (((ofN s).getD 0 : Nat) : Int)
def ofB (s : ByteArray) : Bool := (ofN s).isSome
/-- a call that answers this, and leaves what was there -/
def Says (v : Value) (w : World) (e : Ending) (w' : World) : Prop := e = .returned v ∧ Below w.heap.size w w'
theorem Says.of {v : Value} {w : World} {e : Ending} {w' : World} (h : e = .returned v ∧ w' = w) : Says v w e w' := ⟨h.1, by rw [h.2]; exact Below.refl _ _⟩
end Go.Proofs.YtlomfmilohbgpaaGreatDoor
