/-
  NARROWER THAN 'FOR EVERY INPUT', by the rows' own cells (each row's printed sentence says how): OpTells: laid · OpBalance: laid · OpNames: laid.
  DERIVED. THE GIVEN ROWS OF THIS SEAT. 3 by the template 'for every input the law returns true; each argument reads behind the call as it read before'; 0 by the template 'total and deterministic' (their statements: YtlhamfiflmlepaaDoorTotals.lean).
  GIVEN WITH THE SEED: the statements are not yours to turn. If you find one false, say at which input.
  Laid BY PROGRAM, IN A SANDBOX (cutbox-rows.mjs): the forced cells as the released guide's own fill.sh prints them over the translation 22200c0074243221… (all of the seat's roots in one cut). By AI agents, Wed Nov 11 2026. No macro, syntax, notation, axiom, sorry.
-/
import Derived.Test.YtlhamfiflmlepaaDoorChecked
import GoSem.Claim
import GoSem.ClaimJoined
import GoSem.ClaimMapViews
import Derived.JoinedTies
import Derived.KernelRfl
namespace Go.Proofs.YtlhamfiflmlepaaDoor
/- THE CELL 'sum', in the pinned program and in every row, IS THE sha256 OF THE DUMP (.gsa) THAT YtlhamfiflmlepaaDoorProg.lean LOADS. Nothing in Lean hashes anything: it is a label: what it is worth is what the hold of that sum in a sandbox is worth. -/
noncomputable def Tryd.pinned : Pinned := { name := "ytlhamfiflmlepaadoor", sum := "22200c0074243221bd005f9fcb6898f8f3fb5979746fb985cbf06e3d5c03cc03", checked := Tryd.checked }
namespace Rows
def none {H : Type} : Left H := { results := [], args := [] }

/- WHAT THE LISTED PACKAGE-LEVEL VARIABLES READ AS WHEN THE CALL BEGINS. Each datum BY PROGRAM (the guide's laid-datum.mjs) off the statement by which the dump's own 'gosem.cut.vars' lays the variable. In a bare row this is a premise. The card (YtlhamfiflmlepaaDoorCards.lean) ties it to the program's text. -/
def laid_holloway_op_names {H : Type} : DataW H := .agg [.lit (.string [72, 65, 76, 84]), .lit (.string [69, 78, 68, 67, 65, 84, 67, 72]), .lit (.string [76, 73, 84]), .lit (.string [66, 82, 65, 78, 67, 72]), .lit (.string [48, 66, 82, 65, 78, 67, 72]), .lit (.string [69, 88, 73, 84]), .lit (.string [68, 85, 80]), .lit (.string [68, 82, 79, 80]), .lit (.string [83, 87, 65, 80]), .lit (.string [79, 86, 69, 82]), .lit (.string [82, 79, 84]), .lit (.string [43]), .lit (.string [45]), .lit (.string [42]), .lit (.string [47]), .lit (.string [77, 79, 68]), .lit (.string [78, 69, 71, 65, 84, 69]), .lit (.string [65, 78, 68]), .lit (.string [79, 82]), .lit (.string [88, 79, 82]), .lit (.string [73, 78, 86, 69, 82, 84]), .lit (.string [76, 83, 72, 73, 70, 84]), .lit (.string [82, 83, 72, 73, 70, 84]), .lit (.string [61]), .lit (.string [60]), .lit (.string [85, 60]), .lit (.string [48, 61]), .lit (.string [48, 60]), .lit (.string [77, 73, 78]), .lit (.string [77, 65, 88]), .lit (.string [64]), .lit (.string [33]), .lit (.string [43, 33]), .lit (.string [62, 82]), .lit (.string [82, 62]), .lit (.string [82, 64]), .lit (.string [40, 68, 79, 41]), .lit (.string [40, 76, 79, 79, 80, 41]), .lit (.string [40, 43, 76, 79, 79, 80, 41]), .lit (.string [74]), .lit (.string [85, 78, 76, 79, 79, 80]), .lit (.string [69, 77, 73, 84]), .lit (.string [46]), .lit (.string [75, 69, 89]), .lit (.string [69, 88, 69, 67, 85, 84, 69]), .lit (.string [84, 72, 82, 79, 87]), .lit (.string [67, 65, 84, 67, 72]), .lit (.string [78, 79, 80])]

/-- 'hollowaylaw6.OpTells': WHATEVER THE INPUT: true; the input reads as it did. -/
def opTellsSpec : ChangeSpec := { name := "opTells", fn := fun _ => fun
  | [d1, d2] => { results := [.lit (.bool true)], args := [d1, d2] }
  | _ => none }
def opTellsRow : OpenClaim := { program := "ytlhamfiflmlepaadoor", sum := "22200c0074243221bd005f9fcb6898f8f3fb5979746fb985cbf06e3d5c03cc03", func := "holloway/hollowaylaw6.OpTells", spec := "opTells", named := ["holloway/op.names"], apart := false, laid := [("holloway/op.names", laid_holloway_op_names)] }
def OpTellsSaid : Prop := opTellsRow.holds Tryd.pinned (OpenSpec.ofChange opTellsSpec)

/-- ITS FALSE NEIGHBOUR: 'it returns false'. Refute it at one input. -/
def opTellsWrong : ChangeSpec := { name := "opTells", fn := fun _ => fun
  | [d1, d2] => { results := [.lit (.bool false)], args := [d1, d2] }
  | _ => none }
def OpTellsWrongFalsely : Prop := opTellsRow.holds Tryd.pinned (OpenSpec.ofChange opTellsWrong)

/-- 'hollowaylaw6.OpBalance': WHATEVER THE INPUT: true; the input reads as it did. -/
def opBalanceSpec : ChangeSpec := { name := "opBalance", fn := fun _ => fun
  | [d1, d2] => { results := [.lit (.bool true)], args := [d1, d2] }
  | _ => none }
def opBalanceRow : OpenClaim := { program := "ytlhamfiflmlepaadoor", sum := "22200c0074243221bd005f9fcb6898f8f3fb5979746fb985cbf06e3d5c03cc03", func := "holloway/hollowaylaw6.OpBalance", spec := "opBalance", named := ["holloway/op.names"], apart := false, laid := [("holloway/op.names", laid_holloway_op_names)] }
def OpBalanceSaid : Prop := opBalanceRow.holds Tryd.pinned (OpenSpec.ofChange opBalanceSpec)

/-- ITS FALSE NEIGHBOUR: 'it returns false'. Refute it at one input. -/
def opBalanceWrong : ChangeSpec := { name := "opBalance", fn := fun _ => fun
  | [d1, d2] => { results := [.lit (.bool false)], args := [d1, d2] }
  | _ => none }
def OpBalanceWrongFalsely : Prop := opBalanceRow.holds Tryd.pinned (OpenSpec.ofChange opBalanceWrong)

/-- 'hollowaylaw6.OpNames': WHATEVER THE INPUT: true; the input reads as it did. -/
def opNamesSpec : ChangeSpec := { name := "opNames", fn := fun _ => fun
  | [d1, d2] => { results := [.lit (.bool true)], args := [d1, d2] }
  | _ => none }
def opNamesRow : OpenClaim := { program := "ytlhamfiflmlepaadoor", sum := "22200c0074243221bd005f9fcb6898f8f3fb5979746fb985cbf06e3d5c03cc03", func := "holloway/hollowaylaw6.OpNames", spec := "opNames", named := ["holloway/op.names"], apart := false, laid := [("holloway/op.names", laid_holloway_op_names)] }
def OpNamesSaid : Prop := opNamesRow.holds Tryd.pinned (OpenSpec.ofChange opNamesSpec)

/-- ITS FALSE NEIGHBOUR: 'it returns false'. Refute it at one input. -/
def opNamesWrong : ChangeSpec := { name := "opNames", fn := fun _ => fun
  | [d1, d2] => { results := [.lit (.bool false)], args := [d1, d2] }
  | _ => none }
def OpNamesWrongFalsely : Prop := opNamesRow.holds Tryd.pinned (OpenSpec.ofChange opNamesWrong)

/- THE SECOND FORM. 'bulk': how many values and letters a reading holds, each counted each time it is reached (what is shared counts as often as it is met; a slice's spare places count too). A statement '..UptoSaid' is the law's where the arguments, and the package variables that the reading takes, are together of bulk at most 1048576: NARROWER than '..Said'. Prove '..Said' where nothing that the law and all that it calls make is longer than what came in: it says more and counts as full. Else prove '..UptoSaid'. A law counts once. -/
mutual
def uptoBulk {H : Type} : DataW H → Nat
  | .lit (.string bytes) => bytes.length + 1
  | .lit _ => 1
  | .nil => 1
  | .ptr d => uptoBulk d + 1
  | .slice elems spare => uptoBulkAll elems + uptoBulkAll spare + 1
  | .agg parts => uptoBulkAll parts + 1
  | .iface _ d => uptoBulk d + 1
  | .map entries => uptoBulkEntries entries + 1
  | .held _ => 1
def uptoBulkAll {H : Type} : List (DataW H) → Nat
  | [] => 0
  | d :: r => uptoBulk d + uptoBulkAll r
def uptoBulkEntries {H : Type} : List (Lit × DataW H) → Nat
  | [] => 0
  | x :: r => uptoBulkEntry x + uptoBulkEntries r
def uptoBulkEntry {H : Type} : Lit × DataW H → Nat
  | (.string bytes, d) => bytes.length + uptoBulk d + 1
  | (_, d) => uptoBulk d + 1
 end
def uptoSmall : (H : Type) → List (DataW H) → Bool := fun _ ds => decide (uptoBulkAll ds ≤ 1048576)
def OpenSpec.upto (s : _root_.Go.ChangeSpec) : _root_.Go.OpenSpec := { _root_.Go.OpenSpec.ofChange s with cond := some uptoSmall }

/-- 'hollowaylaw6.OpTells', WHERE WHAT IT READS IS OF BULK AT MOST 1048576: true; the input reads as it did. -/
def opTellsUptoRow : OpenClaim := { program := "ytlhamfiflmlepaadoor", sum := "22200c0074243221bd005f9fcb6898f8f3fb5979746fb985cbf06e3d5c03cc03", func := "holloway/hollowaylaw6.OpTells", spec := "opTells", named := ["holloway/op.names"], apart := false, laid := [("holloway/op.names", laid_holloway_op_names)], narrowed := true }
def OpTellsUptoSaid : Prop := opTellsUptoRow.holds Tryd.pinned (OpenSpec.upto opTellsSpec)

/-- 'hollowaylaw6.OpBalance', WHERE WHAT IT READS IS OF BULK AT MOST 1048576: true; the input reads as it did. -/
def opBalanceUptoRow : OpenClaim := { program := "ytlhamfiflmlepaadoor", sum := "22200c0074243221bd005f9fcb6898f8f3fb5979746fb985cbf06e3d5c03cc03", func := "holloway/hollowaylaw6.OpBalance", spec := "opBalance", named := ["holloway/op.names"], apart := false, laid := [("holloway/op.names", laid_holloway_op_names)], narrowed := true }
def OpBalanceUptoSaid : Prop := opBalanceUptoRow.holds Tryd.pinned (OpenSpec.upto opBalanceSpec)

/-- 'hollowaylaw6.OpNames', WHERE WHAT IT READS IS OF BULK AT MOST 1048576: true; the input reads as it did. -/
def opNamesUptoRow : OpenClaim := { program := "ytlhamfiflmlepaadoor", sum := "22200c0074243221bd005f9fcb6898f8f3fb5979746fb985cbf06e3d5c03cc03", func := "holloway/hollowaylaw6.OpNames", spec := "opNames", named := ["holloway/op.names"], apart := false, laid := [("holloway/op.names", laid_holloway_op_names)], narrowed := true }
def OpNamesUptoSaid : Prop := opNamesUptoRow.holds Tryd.pinned (OpenSpec.upto opNamesSpec)

end Rows
end Go.Proofs.YtlhamfiflmlepaaDoor
