/-
  NARROWER THAN 'FOR EVERY INPUT', by the rows' own cells (each row's printed sentence says how): WeavePlays: laid.
  DERIVED. THE GIVEN ROWS OF THIS SEAT. 1 by the template 'for every input the law returns true; each argument reads behind the call as it read before'; 0 by the template 'total and deterministic' (their statements: YtcpdhfigaoaohaaDoorTotals.lean).
  GIVEN WITH THE SEED: the statements are not yours to turn. If you find one false, say at which input.
  Laid BY PROGRAM, IN A SANDBOX (cutbox-rows.mjs): the forced cells as the released guide's own fill.sh prints them over the translation 40d561946474165f… (all of the seat's roots in one cut). By AI agents, Wed Nov 11 2026. No macro, syntax, notation, axiom, sorry.
-/
import Derived.Test.YtcpdhfigaoaohaaDoorChecked
import GoSem.Claim
import GoSem.ClaimJoined
import GoSem.ClaimMapViews
import Derived.JoinedTies
import Derived.KernelRfl
namespace Go.Proofs.YtcpdhfigaoaohaaDoor
/- THE CELL 'sum', in the pinned program and in every row, IS THE sha256 OF THE DUMP (.gsa) THAT YtcpdhfigaoaohaaDoorProg.lean LOADS. Nothing in Lean hashes anything: it is a label: what it is worth is what the hold of that sum in a sandbox is worth. -/
noncomputable def Tryd.pinned : Pinned := { name := "ytcpdhfigaoaohaadoor", sum := "40d561946474165f8834737efe796afda1126c338a8e7ba1f21a365ffbbe599a", checked := Tryd.checked }
namespace Rows
def none {H : Type} : Left H := { results := [], args := [] }

/- WHAT THE LISTED PACKAGE-LEVEL VARIABLES READ AS WHEN THE CALL BEGINS. Each datum BY PROGRAM (the guide's laid-datum.mjs) off the statement by which the dump's own 'gosem.cut.vars' lays the variable. In a bare row this is a premise. The card (YtcpdhfigaoaohaaDoorCards.lean) ties it to the program's text. -/
def laid_holloway_weave_names {H : Type} : DataW H := .agg [.lit (.string [73, 70]), .lit (.string [69, 76, 83, 69]), .lit (.string [84, 72, 69, 78]), .lit (.string [66, 69, 71, 73, 78]), .lit (.string [85, 78, 84, 73, 76]), .lit (.string [65, 71, 65, 73, 78]), .lit (.string [87, 72, 73, 76, 69]), .lit (.string [82, 69, 80, 69, 65, 84]), .lit (.string [68, 79]), .lit (.string [76, 79, 79, 80]), .lit (.string [43, 76, 79, 79, 80])]

/-- 'hollowaylaw10.WeavePlays': WHATEVER THE INPUT: true; the input reads as it did. -/
def weavePlaysSpec : ChangeSpec := { name := "weavePlays", fn := fun _ => fun
  | [d1, d2, d3] => { results := [.lit (.bool true)], args := [d1, d2, d3] }
  | _ => none }
def weavePlaysRow : OpenClaim := { program := "ytcpdhfigaoaohaadoor", sum := "40d561946474165f8834737efe796afda1126c338a8e7ba1f21a365ffbbe599a", func := "holloway/hollowaylaw10.WeavePlays", spec := "weavePlays", named := ["holloway/weave.names"], apart := false, laid := [("holloway/weave.names", laid_holloway_weave_names)] }
def WeavePlaysSaid : Prop := weavePlaysRow.holds Tryd.pinned (OpenSpec.ofChange weavePlaysSpec)

/-- ITS FALSE NEIGHBOUR: 'it returns false'. Refute it at one input. -/
def weavePlaysWrong : ChangeSpec := { name := "weavePlays", fn := fun _ => fun
  | [d1, d2, d3] => { results := [.lit (.bool false)], args := [d1, d2, d3] }
  | _ => none }
def WeavePlaysWrongFalsely : Prop := weavePlaysRow.holds Tryd.pinned (OpenSpec.ofChange weavePlaysWrong)

/- THE SECOND FORM. 'bulk': how many values and letters a reading holds, each counted each time it is reached (what is shared counts as often as it is met; a slice's spare places count too). A statement '..UptoSaid' is the law's where the arguments, and the package variables that the reading takes, are together of bulk at most 1048576: NARROWER than '..Said'. Prove '..Said' where nothing that the law and all that it calls make is longer than what came in: it says more and counts as full. Else prove '..UptoSaid'. A law counts once. -/
mutual
def uptoBulk {H : Type} : DataW H → Nat
  | .lit (.string bytes) => bytes.length + 1
  | .lit _ => 1
  | .nil => 1
  | .ptr d => uptoBulk d + 1
  | .slice elems spare => uptoBulkAll elems + uptoBulkAll spare + 1
  | .agg parts => uptoBulkAll parts + 1
  | .iface _ d => uptoBulk d + 1
  | .map entries => uptoBulkEntries entries + 1
  | .held _ => 1
def uptoBulkAll {H : Type} : List (DataW H) → Nat
  | [] => 0
  | d :: r => uptoBulk d + uptoBulkAll r
def uptoBulkEntries {H : Type} : List (Lit × DataW H) → Nat
  | [] => 0
  | x :: r => uptoBulkEntry x + uptoBulkEntries r
def uptoBulkEntry {H : Type} : Lit × DataW H → Nat
  | (.string bytes, d) => bytes.length + uptoBulk d + 1
  | (_, d) => uptoBulk d + 1
 end
def uptoSmall : (H : Type) → List (DataW H) → Bool := fun _ ds => decide (uptoBulkAll ds ≤ 1048576)
def OpenSpec.upto (s : _root_.Go.ChangeSpec) : _root_.Go.OpenSpec := { _root_.Go.OpenSpec.ofChange s with cond := some uptoSmall }

/-- 'hollowaylaw10.WeavePlays', WHERE WHAT IT READS IS OF BULK AT MOST 1048576: true; the input reads as it did. -/
def weavePlaysUptoRow : OpenClaim := { program := "ytcpdhfigaoaohaadoor", sum := "40d561946474165f8834737efe796afda1126c338a8e7ba1f21a365ffbbe599a", func := "holloway/hollowaylaw10.WeavePlays", spec := "weavePlays", named := ["holloway/weave.names"], apart := false, laid := [("holloway/weave.names", laid_holloway_weave_names)], narrowed := true }
def WeavePlaysUptoSaid : Prop := weavePlaysUptoRow.holds Tryd.pinned (OpenSpec.upto weavePlaysSpec)

end Rows
end Go.Proofs.YtcpdhfigaoaohaaDoor
