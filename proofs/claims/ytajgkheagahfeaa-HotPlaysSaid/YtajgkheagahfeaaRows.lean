/-
  No cell of these rows narrows 'for every input' (looked for: loops, veiled, ifaces, maps, wideKeys, modest, calm, conditions, laid).
  DERIVED. THE GIVEN ROWS OF THIS SEAT. 4 by the template 'for every input the law returns true; each argument reads behind the call as it read before'; 0 by the template 'total and deterministic' (their statements: YtajgkheagahfeaaTotals.lean).
  GIVEN WITH THE SEED: the statements are not yours to turn. If you find one false, say at which input.
  Laid BY PROGRAM, IN A SANDBOX (cutbox-rows.mjs): the forced cells as the released guide's own fill.sh prints them over the translation 20224cdf148281e2… (all of the seat's roots in one cut). By AI agents, Wed Nov 11 2026. No macro, syntax, notation, axiom, sorry.
-/
import Derived.Test.YtajgkheagahfeaaChecked
import GoSem.Claim
import GoSem.ClaimJoined
import GoSem.ClaimMapViews
import Derived.JoinedTies
import Derived.KernelRfl
namespace Go.Proofs.Ytajgkheagahfeaa
/- THE CELL 'sum', in the pinned program and in every row, IS THE sha256 OF THE DUMP (.gsa) THAT YtajgkheagahfeaaProg.lean LOADS. Nothing in Lean hashes anything: it is a label: what it is worth is what the hold of that sum in a sandbox is worth. -/
noncomputable def Try.pinned : Pinned := { name := "ytajgkheagahfeaa", sum := "20224cdf148281e2f27dc8c720c4b395242f8375930f37a07c6d9a329b08851b", checked := Try.checked }
namespace Rows
def none {H : Type} : Left H := { results := [], args := [] }

/-- 'hollowaylaw12.HotPlays': WHATEVER THE INPUT: true; the input reads as it did. -/
def hotPlaysSpec : ChangeSpec := { name := "hotPlays", fn := fun _ => fun
  | [d1, d2, d3] => { results := [.lit (.bool true)], args := [d1, d2, d3] }
  | _ => none }
def hotPlaysRow : OpenClaim := { program := "ytajgkheagahfeaa", sum := "20224cdf148281e2f27dc8c720c4b395242f8375930f37a07c6d9a329b08851b", func := "holloway/hollowaylaw12.HotPlays", spec := "hotPlays", apart := false }
def HotPlaysSaid : Prop := hotPlaysRow.holds Try.pinned (OpenSpec.ofChange hotPlaysSpec)

/-- ITS FALSE NEIGHBOUR: 'it returns false'. Refute it at one input. -/
def hotPlaysWrong : ChangeSpec := { name := "hotPlays", fn := fun _ => fun
  | [d1, d2, d3] => { results := [.lit (.bool false)], args := [d1, d2, d3] }
  | _ => none }
def HotPlaysWrongFalsely : Prop := hotPlaysRow.holds Try.pinned (OpenSpec.ofChange hotPlaysWrong)

/-- 'hollowaylaw12.HotRounds': WHATEVER THE INPUT: true; the input reads as it did. -/
def hotRoundsSpec : ChangeSpec := { name := "hotRounds", fn := fun _ => fun
  | [d1, d2, d3] => { results := [.lit (.bool true)], args := [d1, d2, d3] }
  | _ => none }
def hotRoundsRow : OpenClaim := { program := "ytajgkheagahfeaa", sum := "20224cdf148281e2f27dc8c720c4b395242f8375930f37a07c6d9a329b08851b", func := "holloway/hollowaylaw12.HotRounds", spec := "hotRounds", apart := false }
def HotRoundsSaid : Prop := hotRoundsRow.holds Try.pinned (OpenSpec.ofChange hotRoundsSpec)

/-- ITS FALSE NEIGHBOUR: 'it returns false'. Refute it at one input. -/
def hotRoundsWrong : ChangeSpec := { name := "hotRounds", fn := fun _ => fun
  | [d1, d2, d3] => { results := [.lit (.bool false)], args := [d1, d2, d3] }
  | _ => none }
def HotRoundsWrongFalsely : Prop := hotRoundsRow.holds Try.pinned (OpenSpec.ofChange hotRoundsWrong)

/-- 'hollowaylaw12.HotForgets': WHATEVER THE INPUT: true; the input reads as it did. -/
def hotForgetsSpec : ChangeSpec := { name := "hotForgets", fn := fun _ => fun
  | [d1, d2, d3, d4] => { results := [.lit (.bool true)], args := [d1, d2, d3, d4] }
  | _ => none }
def hotForgetsRow : OpenClaim := { program := "ytajgkheagahfeaa", sum := "20224cdf148281e2f27dc8c720c4b395242f8375930f37a07c6d9a329b08851b", func := "holloway/hollowaylaw12.HotForgets", spec := "hotForgets", apart := false }
def HotForgetsSaid : Prop := hotForgetsRow.holds Try.pinned (OpenSpec.ofChange hotForgetsSpec)

/-- ITS FALSE NEIGHBOUR: 'it returns false'. Refute it at one input. -/
def hotForgetsWrong : ChangeSpec := { name := "hotForgets", fn := fun _ => fun
  | [d1, d2, d3, d4] => { results := [.lit (.bool false)], args := [d1, d2, d3, d4] }
  | _ => none }
def HotForgetsWrongFalsely : Prop := hotForgetsRow.holds Try.pinned (OpenSpec.ofChange hotForgetsWrong)

/-- 'hollowaylaw12.HotFull': WHATEVER THE INPUT: true; the input reads as it did. -/
def hotFullSpec : ChangeSpec := { name := "hotFull", fn := fun _ => fun
  | [d1, d2, d3] => { results := [.lit (.bool true)], args := [d1, d2, d3] }
  | _ => none }
def hotFullRow : OpenClaim := { program := "ytajgkheagahfeaa", sum := "20224cdf148281e2f27dc8c720c4b395242f8375930f37a07c6d9a329b08851b", func := "holloway/hollowaylaw12.HotFull", spec := "hotFull", apart := false }
def HotFullSaid : Prop := hotFullRow.holds Try.pinned (OpenSpec.ofChange hotFullSpec)

/-- ITS FALSE NEIGHBOUR: 'it returns false'. Refute it at one input. -/
def hotFullWrong : ChangeSpec := { name := "hotFull", fn := fun _ => fun
  | [d1, d2, d3] => { results := [.lit (.bool false)], args := [d1, d2, d3] }
  | _ => none }
def HotFullWrongFalsely : Prop := hotFullRow.holds Try.pinned (OpenSpec.ofChange hotFullWrong)

/- THE SECOND FORM. 'bulk': how many values and letters a reading holds, each counted each time it is reached (what is shared counts as often as it is met; a slice's spare places count too). A statement '..UptoSaid' is the law's where the arguments, and the package variables that the reading takes, are together of bulk at most 1048576: NARROWER than '..Said'. Prove '..Said' where nothing that the law and all that it calls make is longer than what came in: it says more and counts as full. Else prove '..UptoSaid'. A law counts once. -/
mutual
def uptoBulk {H : Type} : DataW H → Nat
  | .lit (.string bytes) => bytes.length + 1
  | .lit _ => 1
  | .nil => 1
  | .ptr d => uptoBulk d + 1
  | .slice elems spare => uptoBulkAll elems + uptoBulkAll spare + 1
  | .agg parts => uptoBulkAll parts + 1
  | .iface _ d => uptoBulk d + 1
  | .map entries => uptoBulkEntries entries + 1
  | .held _ => 1
def uptoBulkAll {H : Type} : List (DataW H) → Nat
  | [] => 0
  | d :: r => uptoBulk d + uptoBulkAll r
def uptoBulkEntries {H : Type} : List (Lit × DataW H) → Nat
  | [] => 0
  | x :: r => uptoBulkEntry x + uptoBulkEntries r
def uptoBulkEntry {H : Type} : Lit × DataW H → Nat
  | (.string bytes, d) => bytes.length + uptoBulk d + 1
  | (_, d) => uptoBulk d + 1
 end
def uptoSmall : (H : Type) → List (DataW H) → Bool := fun _ ds => decide (uptoBulkAll ds ≤ 1048576)
def OpenSpec.upto (s : _root_.Go.ChangeSpec) : _root_.Go.OpenSpec := { _root_.Go.OpenSpec.ofChange s with cond := some uptoSmall }

/-- 'hollowaylaw12.HotPlays', WHERE WHAT IT READS IS OF BULK AT MOST 1048576: true; the input reads as it did. -/
def hotPlaysUptoRow : OpenClaim := { program := "ytajgkheagahfeaa", sum := "20224cdf148281e2f27dc8c720c4b395242f8375930f37a07c6d9a329b08851b", func := "holloway/hollowaylaw12.HotPlays", spec := "hotPlays", apart := false, narrowed := true }
def HotPlaysUptoSaid : Prop := hotPlaysUptoRow.holds Try.pinned (OpenSpec.upto hotPlaysSpec)

/-- 'hollowaylaw12.HotRounds', WHERE WHAT IT READS IS OF BULK AT MOST 1048576: true; the input reads as it did. -/
def hotRoundsUptoRow : OpenClaim := { program := "ytajgkheagahfeaa", sum := "20224cdf148281e2f27dc8c720c4b395242f8375930f37a07c6d9a329b08851b", func := "holloway/hollowaylaw12.HotRounds", spec := "hotRounds", apart := false, narrowed := true }
def HotRoundsUptoSaid : Prop := hotRoundsUptoRow.holds Try.pinned (OpenSpec.upto hotRoundsSpec)

/-- 'hollowaylaw12.HotForgets', WHERE WHAT IT READS IS OF BULK AT MOST 1048576: true; the input reads as it did. -/
def hotForgetsUptoRow : OpenClaim := { program := "ytajgkheagahfeaa", sum := "20224cdf148281e2f27dc8c720c4b395242f8375930f37a07c6d9a329b08851b", func := "holloway/hollowaylaw12.HotForgets", spec := "hotForgets", apart := false, narrowed := true }
def HotForgetsUptoSaid : Prop := hotForgetsUptoRow.holds Try.pinned (OpenSpec.upto hotForgetsSpec)

/-- 'hollowaylaw12.HotFull', WHERE WHAT IT READS IS OF BULK AT MOST 1048576: true; the input reads as it did. -/
def hotFullUptoRow : OpenClaim := { program := "ytajgkheagahfeaa", sum := "20224cdf148281e2f27dc8c720c4b395242f8375930f37a07c6d9a329b08851b", func := "holloway/hollowaylaw12.HotFull", spec := "hotFull", apart := false, narrowed := true }
def HotFullUptoSaid : Prop := hotFullUptoRow.holds Try.pinned (OpenSpec.upto hotFullSpec)

end Rows
end Go.Proofs.Ytajgkheagahfeaa
