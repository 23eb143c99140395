
/- The walks of hollowaybook over lists of ints: marks, comparison. -/
import Derived.Test.YtlomfmilohbgpaaGreatDoorRows
import Derived.Test.YtlomfmilohbgpaaGreatDoorBookPlain
import Derived.Test.YtlomfmilohbgpaaGreatDoorBookTexts
import Derived.WalkKit
import Derived.WalkSpells
import Derived.WalkLawsBesides
import Derived.Lib.Hide
import Derived.Laws.BytesArg
import Derived.Deep.LoopGhost
import Derived.Laws.AppendOwnNone
import Derived.BigQuiet
import Derived.Deep.QuietTactic
namespace Go.Proofs.YtlomfmilohbgpaaGreatDoor
open Go.RowKit Book
set_option linter.unusedSimpArgs false
set_option linter.unusedVariables false
/-- the k-th mark of list i -/
def markI (i k : Nat) : Int := -1000000 * (i : Int) - (k : Int) - 7
theorem Tryz.bkIntInfo : (Tryz.prog.info? 3).map (fun i => (i.zero, i.size, i.bytes)) = some (some (.int .i64 0), 1, 8) := by kernel_rfl
theorem Tryz.bkIntSpineInfo : (Tryz.prog.info? 22).map (fun i => (i.zero, i.size, i.bytes)) = some (some (.slice none 0 0), 1, 24) := by kernel_rfl
/-- the marks of list i, from a place on -/
def intMarks (i a n : Nat) : List Value := (List.range n).map fun j => .int .i64 (markI i (a + j))
theorem intMarks_succ (i a n : Nat) : intMarks i a (n + 1) = intMarks i a n ++ [.int .i64 (markI i (a + n))] := by unfold intMarks; rw [List.range_succ, List.map_append]; rfl
theorem intMarks_length (i a n : Nat) : (intMarks i a n).length = n := by simp [intMarks]
def goodInts (xs : List Value) : Prop := ∃ ss : List Int, xs = ss.map (.int .i64) ∧ ss.length ≤ 1000000
end Go.Proofs.YtlomfmilohbgpaaGreatDoor
