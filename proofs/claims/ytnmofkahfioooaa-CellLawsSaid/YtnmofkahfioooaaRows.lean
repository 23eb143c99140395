/-
  No cell of these rows narrows 'for every input' (looked for: loops, veiled, ifaces, maps, wideKeys, modest, calm, conditions, laid).
  DERIVED. THE GIVEN ROWS OF THIS SEAT. 6 by the template 'for every input the law returns true; each argument reads behind the call as it read before'; 0 by the template 'total and deterministic' (their statements: YtnmofkahfioooaaTotals.lean).
  GIVEN WITH THE SEED: the statements are not yours to turn. If you find one false, say at which input.
  Laid BY PROGRAM, IN A SANDBOX (cutbox-rows.mjs): the forced cells as the released guide's own fill.sh prints them over the translation 6eb085d67350f106… (all of the seat's roots in one cut). By AI agents, Wed Nov 11 2026. No macro, syntax, notation, axiom, sorry.
-/
import Derived.Test.YtnmofkahfioooaaChecked
import GoSem.Claim
import GoSem.ClaimJoined
import GoSem.ClaimMapViews
import Derived.JoinedTies
import Derived.KernelRfl
namespace Go.Proofs.Ytnmofkahfioooaa
/- THE CELL 'sum', in the pinned program and in every row, IS THE sha256 OF THE DUMP (.gsa) THAT YtnmofkahfioooaaProg.lean LOADS. Nothing in Lean hashes anything: it is a label: what it is worth is what the hold of that sum in a sandbox is worth. -/
noncomputable def Try.pinned : Pinned := { name := "ytnmofkahfioooaa", sum := "6eb085d67350f106187ff044027bd66a4b4f44abb20783df561cdbd5e92ed1b3", checked := Try.checked }
namespace Rows
def none {H : Type} : Left H := { results := [], args := [] }

/-- 'hollowaylaw1.CellTells': WHATEVER THE INPUT: true; the input reads as it did. -/
def cellTellsSpec : ChangeSpec := { name := "cellTells", fn := fun _ => fun
  | [d1, d2, d3] => { results := [.lit (.bool true)], args := [d1, d2, d3] }
  | _ => none }
def cellTellsRow : OpenClaim := { program := "ytnmofkahfioooaa", sum := "6eb085d67350f106187ff044027bd66a4b4f44abb20783df561cdbd5e92ed1b3", func := "holloway/hollowaylaw1.CellTells", spec := "cellTells", apart := false }
def CellTellsSaid : Prop := cellTellsRow.holds Try.pinned (OpenSpec.ofChange cellTellsSpec)

/-- ITS FALSE NEIGHBOUR: 'it returns false'. Refute it at one input. -/
def cellTellsWrong : ChangeSpec := { name := "cellTells", fn := fun _ => fun
  | [d1, d2, d3] => { results := [.lit (.bool false)], args := [d1, d2, d3] }
  | _ => none }
def CellTellsWrongFalsely : Prop := cellTellsRow.holds Try.pinned (OpenSpec.ofChange cellTellsWrong)

/-- 'hollowaylaw1.CellFloors': WHATEVER THE INPUT: true; the input reads as it did. -/
def cellFloorsSpec : ChangeSpec := { name := "cellFloors", fn := fun _ => fun
  | [d1, d2] => { results := [.lit (.bool true)], args := [d1, d2] }
  | _ => none }
def cellFloorsRow : OpenClaim := { program := "ytnmofkahfioooaa", sum := "6eb085d67350f106187ff044027bd66a4b4f44abb20783df561cdbd5e92ed1b3", func := "holloway/hollowaylaw1.CellFloors", spec := "cellFloors", apart := false }
def CellFloorsSaid : Prop := cellFloorsRow.holds Try.pinned (OpenSpec.ofChange cellFloorsSpec)

/-- ITS FALSE NEIGHBOUR: 'it returns false'. Refute it at one input. -/
def cellFloorsWrong : ChangeSpec := { name := "cellFloors", fn := fun _ => fun
  | [d1, d2] => { results := [.lit (.bool false)], args := [d1, d2] }
  | _ => none }
def CellFloorsWrongFalsely : Prop := cellFloorsRow.holds Try.pinned (OpenSpec.ofChange cellFloorsWrong)

/-- 'hollowaylaw1.CellLaws': WHATEVER THE INPUT: true; the input reads as it did. -/
def cellLawsSpec : ChangeSpec := { name := "cellLaws", fn := fun _ => fun
  | [d1, d2, d3] => { results := [.lit (.bool true)], args := [d1, d2, d3] }
  | _ => none }
def cellLawsRow : OpenClaim := { program := "ytnmofkahfioooaa", sum := "6eb085d67350f106187ff044027bd66a4b4f44abb20783df561cdbd5e92ed1b3", func := "holloway/hollowaylaw1.CellLaws", spec := "cellLaws", apart := false }
def CellLawsSaid : Prop := cellLawsRow.holds Try.pinned (OpenSpec.ofChange cellLawsSpec)

/-- ITS FALSE NEIGHBOUR: 'it returns false'. Refute it at one input. -/
def cellLawsWrong : ChangeSpec := { name := "cellLaws", fn := fun _ => fun
  | [d1, d2, d3] => { results := [.lit (.bool false)], args := [d1, d2, d3] }
  | _ => none }
def CellLawsWrongFalsely : Prop := cellLawsRow.holds Try.pinned (OpenSpec.ofChange cellLawsWrong)

/-- 'hollowaylaw1.CellLoops': WHATEVER THE INPUT: true; the input reads as it did. -/
def cellLoopsSpec : ChangeSpec := { name := "cellLoops", fn := fun _ => fun
  | [d1, d2] => { results := [.lit (.bool true)], args := [d1, d2] }
  | _ => none }
def cellLoopsRow : OpenClaim := { program := "ytnmofkahfioooaa", sum := "6eb085d67350f106187ff044027bd66a4b4f44abb20783df561cdbd5e92ed1b3", func := "holloway/hollowaylaw1.CellLoops", spec := "cellLoops", apart := false }
def CellLoopsSaid : Prop := cellLoopsRow.holds Try.pinned (OpenSpec.ofChange cellLoopsSpec)

/-- ITS FALSE NEIGHBOUR: 'it returns false'. Refute it at one input. -/
def cellLoopsWrong : ChangeSpec := { name := "cellLoops", fn := fun _ => fun
  | [d1, d2] => { results := [.lit (.bool false)], args := [d1, d2] }
  | _ => none }
def CellLoopsWrongFalsely : Prop := cellLoopsRow.holds Try.pinned (OpenSpec.ofChange cellLoopsWrong)

/-- 'hollowaylaw1.CellShifts': WHATEVER THE INPUT: true; the input reads as it did. -/
def cellShiftsSpec : ChangeSpec := { name := "cellShifts", fn := fun _ => fun
  | [d1, d2, d3] => { results := [.lit (.bool true)], args := [d1, d2, d3] }
  | _ => none }
def cellShiftsRow : OpenClaim := { program := "ytnmofkahfioooaa", sum := "6eb085d67350f106187ff044027bd66a4b4f44abb20783df561cdbd5e92ed1b3", func := "holloway/hollowaylaw1.CellShifts", spec := "cellShifts", apart := false }
def CellShiftsSaid : Prop := cellShiftsRow.holds Try.pinned (OpenSpec.ofChange cellShiftsSpec)

/-- ITS FALSE NEIGHBOUR: 'it returns false'. Refute it at one input. -/
def cellShiftsWrong : ChangeSpec := { name := "cellShifts", fn := fun _ => fun
  | [d1, d2, d3] => { results := [.lit (.bool false)], args := [d1, d2, d3] }
  | _ => none }
def CellShiftsWrongFalsely : Prop := cellShiftsRow.holds Try.pinned (OpenSpec.ofChange cellShiftsWrong)

/-- 'hollowaylaw1.CellOrder': WHATEVER THE INPUT: true; the input reads as it did. -/
def cellOrderSpec : ChangeSpec := { name := "cellOrder", fn := fun _ => fun
  | [d1, d2] => { results := [.lit (.bool true)], args := [d1, d2] }
  | _ => none }
def cellOrderRow : OpenClaim := { program := "ytnmofkahfioooaa", sum := "6eb085d67350f106187ff044027bd66a4b4f44abb20783df561cdbd5e92ed1b3", func := "holloway/hollowaylaw1.CellOrder", spec := "cellOrder", apart := false }
def CellOrderSaid : Prop := cellOrderRow.holds Try.pinned (OpenSpec.ofChange cellOrderSpec)

/-- ITS FALSE NEIGHBOUR: 'it returns false'. Refute it at one input. -/
def cellOrderWrong : ChangeSpec := { name := "cellOrder", fn := fun _ => fun
  | [d1, d2] => { results := [.lit (.bool false)], args := [d1, d2] }
  | _ => none }
def CellOrderWrongFalsely : Prop := cellOrderRow.holds Try.pinned (OpenSpec.ofChange cellOrderWrong)

/- THE SECOND FORM. 'bulk': how many values and letters a reading holds, each counted each time it is reached (what is shared counts as often as it is met; a slice's spare places count too). A statement '..UptoSaid' is the law's where the arguments, and the package variables that the reading takes, are together of bulk at most 1048576: NARROWER than '..Said'. Prove '..Said' where nothing that the law and all that it calls make is longer than what came in: it says more and counts as full. Else prove '..UptoSaid'. A law counts once. -/
mutual
def uptoBulk {H : Type} : DataW H → Nat
  | .lit (.string bytes) => bytes.length + 1
  | .lit _ => 1
  | .nil => 1
  | .ptr d => uptoBulk d + 1
  | .slice elems spare => uptoBulkAll elems + uptoBulkAll spare + 1
  | .agg parts => uptoBulkAll parts + 1
  | .iface _ d => uptoBulk d + 1
  | .map entries => uptoBulkEntries entries + 1
  | .held _ => 1
def uptoBulkAll {H : Type} : List (DataW H) → Nat
  | [] => 0
  | d :: r => uptoBulk d + uptoBulkAll r
def uptoBulkEntries {H : Type} : List (Lit × DataW H) → Nat
  | [] => 0
  | x :: r => uptoBulkEntry x + uptoBulkEntries r
def uptoBulkEntry {H : Type} : Lit × DataW H → Nat
  | (.string bytes, d) => bytes.length + uptoBulk d + 1
  | (_, d) => uptoBulk d + 1
 end
def uptoSmall : (H : Type) → List (DataW H) → Bool := fun _ ds => decide (uptoBulkAll ds ≤ 1048576)
def OpenSpec.upto (s : _root_.Go.ChangeSpec) : _root_.Go.OpenSpec := { _root_.Go.OpenSpec.ofChange s with cond := some uptoSmall }

/-- 'hollowaylaw1.CellTells', WHERE WHAT IT READS IS OF BULK AT MOST 1048576: true; the input reads as it did. -/
def cellTellsUptoRow : OpenClaim := { program := "ytnmofkahfioooaa", sum := "6eb085d67350f106187ff044027bd66a4b4f44abb20783df561cdbd5e92ed1b3", func := "holloway/hollowaylaw1.CellTells", spec := "cellTells", apart := false, narrowed := true }
def CellTellsUptoSaid : Prop := cellTellsUptoRow.holds Try.pinned (OpenSpec.upto cellTellsSpec)

/-- 'hollowaylaw1.CellFloors', WHERE WHAT IT READS IS OF BULK AT MOST 1048576: true; the input reads as it did. -/
def cellFloorsUptoRow : OpenClaim := { program := "ytnmofkahfioooaa", sum := "6eb085d67350f106187ff044027bd66a4b4f44abb20783df561cdbd5e92ed1b3", func := "holloway/hollowaylaw1.CellFloors", spec := "cellFloors", apart := false, narrowed := true }
def CellFloorsUptoSaid : Prop := cellFloorsUptoRow.holds Try.pinned (OpenSpec.upto cellFloorsSpec)

/-- 'hollowaylaw1.CellLaws', WHERE WHAT IT READS IS OF BULK AT MOST 1048576: true; the input reads as it did. -/
def cellLawsUptoRow : OpenClaim := { program := "ytnmofkahfioooaa", sum := "6eb085d67350f106187ff044027bd66a4b4f44abb20783df561cdbd5e92ed1b3", func := "holloway/hollowaylaw1.CellLaws", spec := "cellLaws", apart := false, narrowed := true }
def CellLawsUptoSaid : Prop := cellLawsUptoRow.holds Try.pinned (OpenSpec.upto cellLawsSpec)

/-- 'hollowaylaw1.CellLoops', WHERE WHAT IT READS IS OF BULK AT MOST 1048576: true; the input reads as it did. -/
def cellLoopsUptoRow : OpenClaim := { program := "ytnmofkahfioooaa", sum := "6eb085d67350f106187ff044027bd66a4b4f44abb20783df561cdbd5e92ed1b3", func := "holloway/hollowaylaw1.CellLoops", spec := "cellLoops", apart := false, narrowed := true }
def CellLoopsUptoSaid : Prop := cellLoopsUptoRow.holds Try.pinned (OpenSpec.upto cellLoopsSpec)

/-- 'hollowaylaw1.CellShifts', WHERE WHAT IT READS IS OF BULK AT MOST 1048576: true; the input reads as it did. -/
def cellShiftsUptoRow : OpenClaim := { program := "ytnmofkahfioooaa", sum := "6eb085d67350f106187ff044027bd66a4b4f44abb20783df561cdbd5e92ed1b3", func := "holloway/hollowaylaw1.CellShifts", spec := "cellShifts", apart := false, narrowed := true }
def CellShiftsUptoSaid : Prop := cellShiftsUptoRow.holds Try.pinned (OpenSpec.upto cellShiftsSpec)

/-- 'hollowaylaw1.CellOrder', WHERE WHAT IT READS IS OF BULK AT MOST 1048576: true; the input reads as it did. -/
def cellOrderUptoRow : OpenClaim := { program := "ytnmofkahfioooaa", sum := "6eb085d67350f106187ff044027bd66a4b4f44abb20783df561cdbd5e92ed1b3", func := "holloway/hollowaylaw1.CellOrder", spec := "cellOrder", apart := false, narrowed := true }
def CellOrderUptoSaid : Prop := cellOrderUptoRow.holds Try.pinned (OpenSpec.upto cellOrderSpec)

end Rows
end Go.Proofs.Ytnmofkahfioooaa
