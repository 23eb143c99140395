
/- What a recording is, in plain lists (chapter 13); no code of package record in sight. -/
import Derived.Test.YtcffbeihgchpgaaGreatDoorG6
import Derived.Test.YtcffbeihgchpgaaGreatDoorG18
namespace Go.Proofs.YtcffbeihgchpgaaGreatDoor.Rec
open Mach
open Go.RowKit (wrap64)
open Go.Proofs.YtcffbeihgchpgaaGreatDoor.Cell (In)
set_option linter.unusedVariables false
/-- a step that was recorded: its ip, the cell there, the operand, the ip behind it -/
abbrev S := Int × Int × Int × Int
structure R where
  start : Int
  last : Int
  loop : Bool
  steps : List S
/-- a machine without its handler -/
def bare (m : M) : M := { m with handler := 0 }
/-- a cell of the memory; 0, if there is none -/
def ld (m : M) (a : Int) : Int := if a < 0 ∨ (m.mem.length : Int) ≤ a then 0 else m.mem.getD a.toNat 0
/-- a step as it is seen -/
def see (m : M) (nx : Int) : S := (m.ip, ld m m.ip, if argI (ld m m.ip) = true then ld m (wrap64 (m.ip + 1)) else 0, nx)
def place (a : Int) : Bool := decide (0 ≤ a ∧ a < 3000)
def lastOf (x : S) : Int := if argI x.2.1 = true then wrap64 (x.1 + 1) else x.1
/-- may a step be recorded? -/
def fit (x : S) : Bool := decide ((plainI x.2.1 = true ∨ 64 ≤ x.2.1) ∧ (argI x.2.1 = true ∨ x.2.2.1 = 0) ∧ place x.1 = true ∧ place (lastOf x) = true ∧ place x.2.2.2 = true)
/-- what is recorded of a machine without its handler: left: how many more steps may be done -/
def tape (start : Int) : Nat → List S → M → R
  | left, l, m =>
    if l ≠ [] ∧ m.ip = start then ⟨start, m.ip, true, l⟩
    else match left with
      | 0 => ⟨start, m.ip, false, l⟩
      | n + 1 => if (Mach.step m).status ≠ 0 ∨ fit (see m (Mach.step m).ip) = false then ⟨start, m.ip, false, l⟩ else tape start n (l ++ [see m (Mach.step m).ip]) (Mach.step m)
/-- of a machine its recording -/
def recOf (m : M) (most : Nat) : R := tape m.ip most [] (bare m)
/-- how many steps there may be -/
def mostOf (most : Int) : Nat := (min (max most 0) 120).toNat
end Go.Proofs.YtcffbeihgchpgaaGreatDoor.Rec
