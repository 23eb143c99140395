/-
  No cell of these rows narrows 'for every input' (looked for: loops, veiled, ifaces, maps, wideKeys, modest, calm, conditions, laid).
  DERIVED. THE GIVEN ROWS OF THIS SEAT. 3 by the template 'for every input the law returns true; each argument reads behind the call as it read before'; 0 by the template 'total and deterministic' (their statements: YtifcjcheokkojaaTotals.lean).
  GIVEN WITH THE SEED: the statements are not yours to turn. If you find one false, say at which input.
  Laid BY PROGRAM, IN A SANDBOX (cutbox-rows.mjs): the forced cells as the released guide's own fill.sh prints them over the translation b2c60b3c41be0afd… (all of the seat's roots in one cut). By AI agents, Wed Nov 11 2026. No macro, syntax, notation, axiom, sorry.
-/
import Derived.Test.YtifcjcheokkojaaChecked
import GoSem.Claim
import GoSem.ClaimJoined
import GoSem.ClaimMapViews
import Derived.JoinedTies
import Derived.KernelRfl
namespace Go.Proofs.Ytifcjcheokkojaa
/- THE CELL 'sum', in the pinned program and in every row, IS THE sha256 OF THE DUMP (.gsa) THAT YtifcjcheokkojaaProg.lean LOADS. Nothing in Lean hashes anything: it is a label: what it is worth is what the hold of that sum in a sandbox is worth. -/
noncomputable def Try.pinned : Pinned := { name := "ytifcjcheokkojaa", sum := "b2c60b3c41be0afd246325af0b4db5079dc554cdf45b4883ad91804556abe8b0", checked := Try.checked }
namespace Rows
def none {H : Type} : Left H := { results := [], args := [] }

/-- 'hollowaylaw4.FieldPlays': WHATEVER THE INPUT: true; the input reads as it did. -/
def fieldPlaysSpec : ChangeSpec := { name := "fieldPlays", fn := fun _ => fun
  | [d1, d2, d3, d4] => { results := [.lit (.bool true)], args := [d1, d2, d3, d4] }
  | _ => none }
def fieldPlaysRow : OpenClaim := { program := "ytifcjcheokkojaa", sum := "b2c60b3c41be0afd246325af0b4db5079dc554cdf45b4883ad91804556abe8b0", func := "holloway/hollowaylaw4.FieldPlays", spec := "fieldPlays", inPlace := ["slices.overlaps[int]"], apart := false }
def FieldPlaysSaid : Prop := fieldPlaysRow.holds Try.pinned (OpenSpec.ofChange fieldPlaysSpec)

/-- ITS FALSE NEIGHBOUR: 'it returns false'. Refute it at one input. -/
def fieldPlaysWrong : ChangeSpec := { name := "fieldPlays", fn := fun _ => fun
  | [d1, d2, d3, d4] => { results := [.lit (.bool false)], args := [d1, d2, d3, d4] }
  | _ => none }
def FieldPlaysWrongFalsely : Prop := fieldPlaysRow.holds Try.pinned (OpenSpec.ofChange fieldPlaysWrong)

/-- 'hollowaylaw4.FieldLong': WHATEVER THE INPUT: true; the input reads as it did. -/
def fieldLongSpec : ChangeSpec := { name := "fieldLong", fn := fun _ => fun
  | [d1, d2] => { results := [.lit (.bool true)], args := [d1, d2] }
  | _ => none }
def fieldLongRow : OpenClaim := { program := "ytifcjcheokkojaa", sum := "b2c60b3c41be0afd246325af0b4db5079dc554cdf45b4883ad91804556abe8b0", func := "holloway/hollowaylaw4.FieldLong", spec := "fieldLong", inPlace := ["slices.overlaps[int]"], apart := false }
def FieldLongSaid : Prop := fieldLongRow.holds Try.pinned (OpenSpec.ofChange fieldLongSpec)

/-- ITS FALSE NEIGHBOUR: 'it returns false'. Refute it at one input. -/
def fieldLongWrong : ChangeSpec := { name := "fieldLong", fn := fun _ => fun
  | [d1, d2] => { results := [.lit (.bool false)], args := [d1, d2] }
  | _ => none }
def FieldLongWrongFalsely : Prop := fieldLongRow.holds Try.pinned (OpenSpec.ofChange fieldLongWrong)

/-- 'hollowaylaw4.FieldCopies': WHATEVER THE INPUT: true; the input reads as it did. -/
def fieldCopiesSpec : ChangeSpec := { name := "fieldCopies", fn := fun _ => fun
  | [d1, d2, d3, d4, d5] => { results := [.lit (.bool true)], args := [d1, d2, d3, d4, d5] }
  | _ => none }
def fieldCopiesRow : OpenClaim := { program := "ytifcjcheokkojaa", sum := "b2c60b3c41be0afd246325af0b4db5079dc554cdf45b4883ad91804556abe8b0", func := "holloway/hollowaylaw4.FieldCopies", spec := "fieldCopies", inPlace := ["slices.overlaps[int]"], apart := false }
def FieldCopiesSaid : Prop := fieldCopiesRow.holds Try.pinned (OpenSpec.ofChange fieldCopiesSpec)

/-- ITS FALSE NEIGHBOUR: 'it returns false'. Refute it at one input. -/
def fieldCopiesWrong : ChangeSpec := { name := "fieldCopies", fn := fun _ => fun
  | [d1, d2, d3, d4, d5] => { results := [.lit (.bool false)], args := [d1, d2, d3, d4, d5] }
  | _ => none }
def FieldCopiesWrongFalsely : Prop := fieldCopiesRow.holds Try.pinned (OpenSpec.ofChange fieldCopiesWrong)

/- THE SECOND FORM. 'bulk': how many values and letters a reading holds, each counted each time it is reached (what is shared counts as often as it is met; a slice's spare places count too). A statement '..UptoSaid' is the law's where the arguments, and the package variables that the reading takes, are together of bulk at most 1048576: NARROWER than '..Said'. Prove '..Said' where nothing that the law and all that it calls make is longer than what came in: it says more and counts as full. Else prove '..UptoSaid'. A law counts once. -/
mutual
def uptoBulk {H : Type} : DataW H → Nat
  | .lit (.string bytes) => bytes.length + 1
  | .lit _ => 1
  | .nil => 1
  | .ptr d => uptoBulk d + 1
  | .slice elems spare => uptoBulkAll elems + uptoBulkAll spare + 1
  | .agg parts => uptoBulkAll parts + 1
  | .iface _ d => uptoBulk d + 1
  | .map entries => uptoBulkEntries entries + 1
  | .held _ => 1
def uptoBulkAll {H : Type} : List (DataW H) → Nat
  | [] => 0
  | d :: r => uptoBulk d + uptoBulkAll r
def uptoBulkEntries {H : Type} : List (Lit × DataW H) → Nat
  | [] => 0
  | x :: r => uptoBulkEntry x + uptoBulkEntries r
def uptoBulkEntry {H : Type} : Lit × DataW H → Nat
  | (.string bytes, d) => bytes.length + uptoBulk d + 1
  | (_, d) => uptoBulk d + 1
 end
def uptoSmall : (H : Type) → List (DataW H) → Bool := fun _ ds => decide (uptoBulkAll ds ≤ 1048576)
def OpenSpec.upto (s : _root_.Go.ChangeSpec) : _root_.Go.OpenSpec := { _root_.Go.OpenSpec.ofChange s with cond := some uptoSmall }

/-- 'hollowaylaw4.FieldPlays', WHERE WHAT IT READS IS OF BULK AT MOST 1048576: true; the input reads as it did. -/
def fieldPlaysUptoRow : OpenClaim := { program := "ytifcjcheokkojaa", sum := "b2c60b3c41be0afd246325af0b4db5079dc554cdf45b4883ad91804556abe8b0", func := "holloway/hollowaylaw4.FieldPlays", spec := "fieldPlays", inPlace := ["slices.overlaps[int]"], apart := false, narrowed := true }
def FieldPlaysUptoSaid : Prop := fieldPlaysUptoRow.holds Try.pinned (OpenSpec.upto fieldPlaysSpec)

/-- 'hollowaylaw4.FieldLong', WHERE WHAT IT READS IS OF BULK AT MOST 1048576: true; the input reads as it did. -/
def fieldLongUptoRow : OpenClaim := { program := "ytifcjcheokkojaa", sum := "b2c60b3c41be0afd246325af0b4db5079dc554cdf45b4883ad91804556abe8b0", func := "holloway/hollowaylaw4.FieldLong", spec := "fieldLong", inPlace := ["slices.overlaps[int]"], apart := false, narrowed := true }
def FieldLongUptoSaid : Prop := fieldLongUptoRow.holds Try.pinned (OpenSpec.upto fieldLongSpec)

/-- 'hollowaylaw4.FieldCopies', WHERE WHAT IT READS IS OF BULK AT MOST 1048576: true; the input reads as it did. -/
def fieldCopiesUptoRow : OpenClaim := { program := "ytifcjcheokkojaa", sum := "b2c60b3c41be0afd246325af0b4db5079dc554cdf45b4883ad91804556abe8b0", func := "holloway/hollowaylaw4.FieldCopies", spec := "fieldCopies", inPlace := ["slices.overlaps[int]"], apart := false, narrowed := true }
def FieldCopiesUptoSaid : Prop := fieldCopiesUptoRow.holds Try.pinned (OpenSpec.upto fieldCopiesSpec)

end Rows
end Go.Proofs.Ytifcjcheokkojaa
