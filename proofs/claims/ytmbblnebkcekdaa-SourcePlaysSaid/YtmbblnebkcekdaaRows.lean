/-
  No cell of these rows narrows 'for every input' (looked for: loops, veiled, ifaces, maps, wideKeys, modest, calm, conditions, laid).
  DERIVED. THE GIVEN ROWS OF THIS SEAT. 4 by the template 'for every input the law returns true; each argument reads behind the call as it read before'; 0 by the template 'total and deterministic' (their statements: YtmbblnebkcekdaaTotals.lean).
  GIVEN WITH THE SEED: the statements are not yours to turn. If you find one false, say at which input.
  Laid BY PROGRAM, IN A SANDBOX (cutbox-rows.mjs): the forced cells as the released guide's own fill.sh prints them over the translation 8a745b5b761033e2… (all of the seat's roots in one cut). By AI agents, Wed Nov 11 2026. No macro, syntax, notation, axiom, sorry.
-/
import Derived.Test.YtmbblnebkcekdaaChecked
import GoSem.Claim
import GoSem.ClaimJoined
import GoSem.ClaimMapViews
import Derived.JoinedTies
import Derived.KernelRfl
namespace Go.Proofs.Ytmbblnebkcekdaa
/- THE CELL 'sum', in the pinned program and in every row, IS THE sha256 OF THE DUMP (.gsa) THAT YtmbblnebkcekdaaProg.lean LOADS. Nothing in Lean hashes anything: it is a label: what it is worth is what the hold of that sum in a sandbox is worth. -/
noncomputable def Try.pinned : Pinned := { name := "ytmbblnebkcekdaa", sum := "8a745b5b761033e2e4cbb007ffe8c0fd5eb90ab3b6d27904220d39ddf8e9e00f", checked := Try.checked }
namespace Rows
def none {H : Type} : Left H := { results := [], args := [] }

/-- 'hollowaylaw8.SourcePlays': WHATEVER THE INPUT: true; the input reads as it did. -/
def sourcePlaysSpec : ChangeSpec := { name := "sourcePlays", fn := fun _ => fun
  | [d1, d2] => { results := [.lit (.bool true)], args := [d1, d2] }
  | _ => none }
def sourcePlaysRow : OpenClaim := { program := "ytmbblnebkcekdaa", sum := "8a745b5b761033e2e4cbb007ffe8c0fd5eb90ab3b6d27904220d39ddf8e9e00f", func := "holloway/hollowaylaw8.SourcePlays", spec := "sourcePlays", unfollowed := true, recurses := true, apart := false }
def SourcePlaysSaid : Prop := sourcePlaysRow.holds Try.pinned (OpenSpec.ofChange sourcePlaysSpec)

/-- ITS FALSE NEIGHBOUR: 'it returns false'. Refute it at one input. -/
def sourcePlaysWrong : ChangeSpec := { name := "sourcePlays", fn := fun _ => fun
  | [d1, d2] => { results := [.lit (.bool false)], args := [d1, d2] }
  | _ => none }
def SourcePlaysWrongFalsely : Prop := sourcePlaysRow.holds Try.pinned (OpenSpec.ofChange sourcePlaysWrong)

/-- 'hollowaylaw8.SourceWords': WHATEVER THE INPUT: true; the input reads as it did. -/
def sourceWordsSpec : ChangeSpec := { name := "sourceWords", fn := fun _ => fun
  | [d] => { results := [.lit (.bool true)], args := [d] }
  | _ => none }
def sourceWordsRow : OpenClaim := { program := "ytmbblnebkcekdaa", sum := "8a745b5b761033e2e4cbb007ffe8c0fd5eb90ab3b6d27904220d39ddf8e9e00f", func := "holloway/hollowaylaw8.SourceWords", spec := "sourceWords", unfollowed := true, recurses := true, apart := false }
def SourceWordsSaid : Prop := sourceWordsRow.holds Try.pinned (OpenSpec.ofChange sourceWordsSpec)

/-- ITS FALSE NEIGHBOUR: 'it returns false'. Refute it at one input. -/
def sourceWordsWrong : ChangeSpec := { name := "sourceWords", fn := fun _ => fun
  | [d] => { results := [.lit (.bool false)], args := [d] }
  | _ => none }
def SourceWordsWrongFalsely : Prop := sourceWordsRow.holds Try.pinned (OpenSpec.ofChange sourceWordsWrong)

/-- 'hollowaylaw8.SourceCuts': WHATEVER THE INPUT: true; the input reads as it did. -/
def sourceCutsSpec : ChangeSpec := { name := "sourceCuts", fn := fun _ => fun
  | [d1, d2] => { results := [.lit (.bool true)], args := [d1, d2] }
  | _ => none }
def sourceCutsRow : OpenClaim := { program := "ytmbblnebkcekdaa", sum := "8a745b5b761033e2e4cbb007ffe8c0fd5eb90ab3b6d27904220d39ddf8e9e00f", func := "holloway/hollowaylaw8.SourceCuts", spec := "sourceCuts", unfollowed := true, recurses := true, apart := false }
def SourceCutsSaid : Prop := sourceCutsRow.holds Try.pinned (OpenSpec.ofChange sourceCutsSpec)

/-- ITS FALSE NEIGHBOUR: 'it returns false'. Refute it at one input. -/
def sourceCutsWrong : ChangeSpec := { name := "sourceCuts", fn := fun _ => fun
  | [d1, d2] => { results := [.lit (.bool false)], args := [d1, d2] }
  | _ => none }
def SourceCutsWrongFalsely : Prop := sourceCutsRow.holds Try.pinned (OpenSpec.ofChange sourceCutsWrong)

/-- 'hollowaylaw8.SourceUntils': WHATEVER THE INPUT: true; the input reads as it did. -/
def sourceUntilsSpec : ChangeSpec := { name := "sourceUntils", fn := fun _ => fun
  | [d1, d2] => { results := [.lit (.bool true)], args := [d1, d2] }
  | _ => none }
def sourceUntilsRow : OpenClaim := { program := "ytmbblnebkcekdaa", sum := "8a745b5b761033e2e4cbb007ffe8c0fd5eb90ab3b6d27904220d39ddf8e9e00f", func := "holloway/hollowaylaw8.SourceUntils", spec := "sourceUntils", unfollowed := true, recurses := true, apart := false }
def SourceUntilsSaid : Prop := sourceUntilsRow.holds Try.pinned (OpenSpec.ofChange sourceUntilsSpec)

/-- ITS FALSE NEIGHBOUR: 'it returns false'. Refute it at one input. -/
def sourceUntilsWrong : ChangeSpec := { name := "sourceUntils", fn := fun _ => fun
  | [d1, d2] => { results := [.lit (.bool false)], args := [d1, d2] }
  | _ => none }
def SourceUntilsWrongFalsely : Prop := sourceUntilsRow.holds Try.pinned (OpenSpec.ofChange sourceUntilsWrong)

/- THE SECOND FORM. 'bulk': how many values and letters a reading holds, each counted each time it is reached (what is shared counts as often as it is met; a slice's spare places count too). A statement '..UptoSaid' is the law's where the arguments, and the package variables that the reading takes, are together of bulk at most 1048576: NARROWER than '..Said'. Prove '..Said' where nothing that the law and all that it calls make is longer than what came in: it says more and counts as full. Else prove '..UptoSaid'. A law counts once. -/
mutual
def uptoBulk {H : Type} : DataW H → Nat
  | .lit (.string bytes) => bytes.length + 1
  | .lit _ => 1
  | .nil => 1
  | .ptr d => uptoBulk d + 1
  | .slice elems spare => uptoBulkAll elems + uptoBulkAll spare + 1
  | .agg parts => uptoBulkAll parts + 1
  | .iface _ d => uptoBulk d + 1
  | .map entries => uptoBulkEntries entries + 1
  | .held _ => 1
def uptoBulkAll {H : Type} : List (DataW H) → Nat
  | [] => 0
  | d :: r => uptoBulk d + uptoBulkAll r
def uptoBulkEntries {H : Type} : List (Lit × DataW H) → Nat
  | [] => 0
  | x :: r => uptoBulkEntry x + uptoBulkEntries r
def uptoBulkEntry {H : Type} : Lit × DataW H → Nat
  | (.string bytes, d) => bytes.length + uptoBulk d + 1
  | (_, d) => uptoBulk d + 1
 end
def uptoSmall : (H : Type) → List (DataW H) → Bool := fun _ ds => decide (uptoBulkAll ds ≤ 1048576)
def OpenSpec.upto (s : _root_.Go.ChangeSpec) : _root_.Go.OpenSpec := { _root_.Go.OpenSpec.ofChange s with cond := some uptoSmall }

/-- 'hollowaylaw8.SourcePlays', WHERE WHAT IT READS IS OF BULK AT MOST 1048576: true; the input reads as it did. -/
def sourcePlaysUptoRow : OpenClaim := { program := "ytmbblnebkcekdaa", sum := "8a745b5b761033e2e4cbb007ffe8c0fd5eb90ab3b6d27904220d39ddf8e9e00f", func := "holloway/hollowaylaw8.SourcePlays", spec := "sourcePlays", unfollowed := true, recurses := true, apart := false, narrowed := true }
def SourcePlaysUptoSaid : Prop := sourcePlaysUptoRow.holds Try.pinned (OpenSpec.upto sourcePlaysSpec)

/-- 'hollowaylaw8.SourceWords', WHERE WHAT IT READS IS OF BULK AT MOST 1048576: true; the input reads as it did. -/
def sourceWordsUptoRow : OpenClaim := { program := "ytmbblnebkcekdaa", sum := "8a745b5b761033e2e4cbb007ffe8c0fd5eb90ab3b6d27904220d39ddf8e9e00f", func := "holloway/hollowaylaw8.SourceWords", spec := "sourceWords", unfollowed := true, recurses := true, apart := false, narrowed := true }
def SourceWordsUptoSaid : Prop := sourceWordsUptoRow.holds Try.pinned (OpenSpec.upto sourceWordsSpec)

/-- 'hollowaylaw8.SourceCuts', WHERE WHAT IT READS IS OF BULK AT MOST 1048576: true; the input reads as it did. -/
def sourceCutsUptoRow : OpenClaim := { program := "ytmbblnebkcekdaa", sum := "8a745b5b761033e2e4cbb007ffe8c0fd5eb90ab3b6d27904220d39ddf8e9e00f", func := "holloway/hollowaylaw8.SourceCuts", spec := "sourceCuts", unfollowed := true, recurses := true, apart := false, narrowed := true }
def SourceCutsUptoSaid : Prop := sourceCutsUptoRow.holds Try.pinned (OpenSpec.upto sourceCutsSpec)

/-- 'hollowaylaw8.SourceUntils', WHERE WHAT IT READS IS OF BULK AT MOST 1048576: true; the input reads as it did. -/
def sourceUntilsUptoRow : OpenClaim := { program := "ytmbblnebkcekdaa", sum := "8a745b5b761033e2e4cbb007ffe8c0fd5eb90ab3b6d27904220d39ddf8e9e00f", func := "holloway/hollowaylaw8.SourceUntils", spec := "sourceUntils", unfollowed := true, recurses := true, apart := false, narrowed := true }
def SourceUntilsUptoSaid : Prop := sourceUntilsUptoRow.holds Try.pinned (OpenSpec.upto sourceUntilsSpec)

end Rows
end Go.Proofs.Ytmbblnebkcekdaa
