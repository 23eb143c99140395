/-
  NARROWER THAN 'FOR EVERY INPUT', by the rows' own cells (each row's printed sentence says how): WeavePlays: laid · WeaveClosed: laid · WeaveRoom: laid.
  DERIVED. THE GIVEN ROWS OF THIS SEAT. 3 by the template 'for every input the law returns true; each argument reads behind the call as it read before'; 0 by the template 'total and deterministic' (their statements: YtffiknbdmdljoaaDoorTotals.lean).
  GIVEN WITH THE SEED: the statements are not yours to turn. If you find one false, say at which input.
  Laid BY PROGRAM, IN A SANDBOX (cutbox-rows.mjs): the forced cells as the released guide's own fill.sh prints them over the translation 8d205e3862dafa42… (all of the seat's roots in one cut). By AI agents, Wed Nov 11 2026. No macro, syntax, notation, axiom, sorry.
-/
import Derived.Test.YtffiknbdmdljoaaDoorChecked
import GoSem.Claim
import GoSem.ClaimJoined
import GoSem.ClaimMapViews
import Derived.JoinedTies
import Derived.KernelRfl
namespace Go.Proofs.YtffiknbdmdljoaaDoor
/- THE CELL 'sum', in the pinned program and in every row, IS THE sha256 OF THE DUMP (.gsa) THAT YtffiknbdmdljoaaDoorProg.lean LOADS. Nothing in Lean hashes anything: it is a label: what it is worth is what the hold of that sum in a sandbox is worth. -/
noncomputable def Tryd.pinned : Pinned := { name := "ytffiknbdmdljoaadoor", sum := "8d205e3862dafa429a841328df6ae164a41c84de516ca5db7da0d1e66ca11f89", checked := Tryd.checked }
namespace Rows
def none {H : Type} : Left H := { results := [], args := [] }

/- WHAT THE LISTED PACKAGE-LEVEL VARIABLES READ AS WHEN THE CALL BEGINS. Each datum BY PROGRAM (the guide's laid-datum.mjs) off the statement by which the dump's own 'gosem.cut.vars' lays the variable. In a bare row this is a premise. The card (YtffiknbdmdljoaaDoorCards.lean) ties it to the program's text. -/
def laid_holloway_weave_names {H : Type} : DataW H := .agg [.lit (.string [73, 70]), .lit (.string [69, 76, 83, 69]), .lit (.string [84, 72, 69, 78]), .lit (.string [66, 69, 71, 73, 78]), .lit (.string [85, 78, 84, 73, 76]), .lit (.string [65, 71, 65, 73, 78]), .lit (.string [87, 72, 73, 76, 69]), .lit (.string [82, 69, 80, 69, 65, 84]), .lit (.string [68, 79]), .lit (.string [76, 79, 79, 80]), .lit (.string [43, 76, 79, 79, 80])]

/-- 'hollowaylaw10.WeavePlays': WHATEVER THE INPUT: true; the input reads as it did. -/
def weavePlaysSpec : ChangeSpec := { name := "weavePlays", fn := fun _ => fun
  | [d1, d2, d3] => { results := [.lit (.bool true)], args := [d1, d2, d3] }
  | _ => none }
def weavePlaysRow : OpenClaim := { program := "ytffiknbdmdljoaadoor", sum := "8d205e3862dafa429a841328df6ae164a41c84de516ca5db7da0d1e66ca11f89", func := "holloway/hollowaylaw10.WeavePlays", spec := "weavePlays", named := ["holloway/weave.names"], apart := false, laid := [("holloway/weave.names", laid_holloway_weave_names)] }
def WeavePlaysSaid : Prop := weavePlaysRow.holds Tryd.pinned (OpenSpec.ofChange weavePlaysSpec)

/-- ITS FALSE NEIGHBOUR: 'it returns false'. Refute it at one input. -/
def weavePlaysWrong : ChangeSpec := { name := "weavePlays", fn := fun _ => fun
  | [d1, d2, d3] => { results := [.lit (.bool false)], args := [d1, d2, d3] }
  | _ => none }
def WeavePlaysWrongFalsely : Prop := weavePlaysRow.holds Tryd.pinned (OpenSpec.ofChange weavePlaysWrong)

/-- 'hollowaylaw10.WeaveClosed': WHATEVER THE INPUT: true; the input reads as it did. -/
def weaveClosedSpec : ChangeSpec := { name := "weaveClosed", fn := fun _ => fun
  | [d1, d2] => { results := [.lit (.bool true)], args := [d1, d2] }
  | _ => none }
def weaveClosedRow : OpenClaim := { program := "ytffiknbdmdljoaadoor", sum := "8d205e3862dafa429a841328df6ae164a41c84de516ca5db7da0d1e66ca11f89", func := "holloway/hollowaylaw10.WeaveClosed", spec := "weaveClosed", named := ["holloway/weave.names"], apart := false, laid := [("holloway/weave.names", laid_holloway_weave_names)] }
def WeaveClosedSaid : Prop := weaveClosedRow.holds Tryd.pinned (OpenSpec.ofChange weaveClosedSpec)

/-- ITS FALSE NEIGHBOUR: 'it returns false'. Refute it at one input. -/
def weaveClosedWrong : ChangeSpec := { name := "weaveClosed", fn := fun _ => fun
  | [d1, d2] => { results := [.lit (.bool false)], args := [d1, d2] }
  | _ => none }
def WeaveClosedWrongFalsely : Prop := weaveClosedRow.holds Tryd.pinned (OpenSpec.ofChange weaveClosedWrong)

/-- 'hollowaylaw10.WeaveRoom': WHATEVER THE INPUT: true; the input reads as it did. -/
def weaveRoomSpec : ChangeSpec := { name := "weaveRoom", fn := fun _ => fun
  | [d1, d2, d3] => { results := [.lit (.bool true)], args := [d1, d2, d3] }
  | _ => none }
def weaveRoomRow : OpenClaim := { program := "ytffiknbdmdljoaadoor", sum := "8d205e3862dafa429a841328df6ae164a41c84de516ca5db7da0d1e66ca11f89", func := "holloway/hollowaylaw10.WeaveRoom", spec := "weaveRoom", named := ["holloway/weave.names"], apart := false, laid := [("holloway/weave.names", laid_holloway_weave_names)] }
def WeaveRoomSaid : Prop := weaveRoomRow.holds Tryd.pinned (OpenSpec.ofChange weaveRoomSpec)

/-- ITS FALSE NEIGHBOUR: 'it returns false'. Refute it at one input. -/
def weaveRoomWrong : ChangeSpec := { name := "weaveRoom", fn := fun _ => fun
  | [d1, d2, d3] => { results := [.lit (.bool false)], args := [d1, d2, d3] }
  | _ => none }
def WeaveRoomWrongFalsely : Prop := weaveRoomRow.holds Tryd.pinned (OpenSpec.ofChange weaveRoomWrong)

/- THE SECOND FORM. 'bulk': how many values and letters a reading holds, each counted each time it is reached (what is shared counts as often as it is met; a slice's spare places count too). A statement '..UptoSaid' is the law's where the arguments, and the package variables that the reading takes, are together of bulk at most 1048576: NARROWER than '..Said'. Prove '..Said' where nothing that the law and all that it calls make is longer than what came in: it says more and counts as full. Else prove '..UptoSaid'. A law counts once. -/
mutual
def uptoBulk {H : Type} : DataW H → Nat
  | .lit (.string bytes) => bytes.length + 1
  | .lit _ => 1
  | .nil => 1
  | .ptr d => uptoBulk d + 1
  | .slice elems spare => uptoBulkAll elems + uptoBulkAll spare + 1
  | .agg parts => uptoBulkAll parts + 1
  | .iface _ d => uptoBulk d + 1
  | .map entries => uptoBulkEntries entries + 1
  | .held _ => 1
def uptoBulkAll {H : Type} : List (DataW H) → Nat
  | [] => 0
  | d :: r => uptoBulk d + uptoBulkAll r
def uptoBulkEntries {H : Type} : List (Lit × DataW H) → Nat
  | [] => 0
  | x :: r => uptoBulkEntry x + uptoBulkEntries r
def uptoBulkEntry {H : Type} : Lit × DataW H → Nat
  | (.string bytes, d) => bytes.length + uptoBulk d + 1
  | (_, d) => uptoBulk d + 1
 end
def uptoSmall : (H : Type) → List (DataW H) → Bool := fun _ ds => decide (uptoBulkAll ds ≤ 1048576)
def OpenSpec.upto (s : _root_.Go.ChangeSpec) : _root_.Go.OpenSpec := { _root_.Go.OpenSpec.ofChange s with cond := some uptoSmall }

/-- 'hollowaylaw10.WeavePlays', WHERE WHAT IT READS IS OF BULK AT MOST 1048576: true; the input reads as it did. -/
def weavePlaysUptoRow : OpenClaim := { program := "ytffiknbdmdljoaadoor", sum := "8d205e3862dafa429a841328df6ae164a41c84de516ca5db7da0d1e66ca11f89", func := "holloway/hollowaylaw10.WeavePlays", spec := "weavePlays", named := ["holloway/weave.names"], apart := false, laid := [("holloway/weave.names", laid_holloway_weave_names)], narrowed := true }
def WeavePlaysUptoSaid : Prop := weavePlaysUptoRow.holds Tryd.pinned (OpenSpec.upto weavePlaysSpec)

/-- 'hollowaylaw10.WeaveClosed', WHERE WHAT IT READS IS OF BULK AT MOST 1048576: true; the input reads as it did. -/
def weaveClosedUptoRow : OpenClaim := { program := "ytffiknbdmdljoaadoor", sum := "8d205e3862dafa429a841328df6ae164a41c84de516ca5db7da0d1e66ca11f89", func := "holloway/hollowaylaw10.WeaveClosed", spec := "weaveClosed", named := ["holloway/weave.names"], apart := false, laid := [("holloway/weave.names", laid_holloway_weave_names)], narrowed := true }
def WeaveClosedUptoSaid : Prop := weaveClosedUptoRow.holds Tryd.pinned (OpenSpec.upto weaveClosedSpec)

/-- 'hollowaylaw10.WeaveRoom', WHERE WHAT IT READS IS OF BULK AT MOST 1048576: true; the input reads as it did. -/
def weaveRoomUptoRow : OpenClaim := { program := "ytffiknbdmdljoaadoor", sum := "8d205e3862dafa429a841328df6ae164a41c84de516ca5db7da0d1e66ca11f89", func := "holloway/hollowaylaw10.WeaveRoom", spec := "weaveRoom", named := ["holloway/weave.names"], apart := false, laid := [("holloway/weave.names", laid_holloway_weave_names)], narrowed := true }
def WeaveRoomUptoSaid : Prop := weaveRoomUptoRow.holds Tryd.pinned (OpenSpec.upto weaveRoomSpec)

end Rows
end Go.Proofs.YtffiknbdmdljoaaDoor
