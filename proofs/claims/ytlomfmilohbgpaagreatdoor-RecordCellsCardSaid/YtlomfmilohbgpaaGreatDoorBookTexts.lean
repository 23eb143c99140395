
/- The walks of hollowaybook over lists of texts: marks, comparison. -/
import Derived.Test.YtlomfmilohbgpaaGreatDoorRows
import Derived.Test.YtlomfmilohbgpaaGreatDoorBookPlain
import Derived.WalkKit
import Derived.WalkSpells
import Derived.WalkLawsBesides
import Derived.Lib.Hide
import Derived.Laws.BytesArg
import Derived.Deep.LoopGhost
import Derived.Laws.AppendOwnNone
import Derived.BigQuiet
import Derived.Deep.QuietTactic
namespace Go.Proofs.YtlomfmilohbgpaaGreatDoor
open Go.RowKit Book
set_option linter.unusedSimpArgs false
set_option linter.unusedVariables false
/-- the k-th mark of list i -/
def nameB (i k : Nat) : ByteArray := strOfNums [109, 65 + (i : Int) % 26, 65 + (i : Int) / 26 % 26, 48 + (k : Int) % 10, 48 + (k : Int) / 10 % 10, 48 + (k : Int) / 100 % 10]
theorem bk_below_drewN (B : Nat) (w : World) : ∀ n, Below B w (w.drewN n)
  | 0 => Below.refl _ _
  | n + 1 => by rw [← World.drew_drewN]; exact (bk_below_drewN B w n).drew
theorem name_text (w : World) (i k : Nat) : (convert 140 9 (.slice (some ⟨w.heap.size, 0, none⟩) 6 6)).run Tryz.prog (w.alloc (.cells #[.int .u8 109, .int .u8 (65 + (i : Int) % 26), .int .u8 (65 + (i : Int) / 26 % 26), .int .u8 (48 + (k : Int) % 10), .int .u8 (48 + (k : Int) / 10 % 10), .int .u8 (48 + (k : Int) / 100 % 10)] 5))
    = .ok (.string (nameB i k)) (w.alloc (.cells #[.int .u8 109, .int .u8 (65 + (i : Int) % 26), .int .u8 (65 + (i : Int) / 26 % 26), .int .u8 (48 + (k : Int) % 10), .int .u8 (48 + (k : Int) / 10 % 10), .int .u8 (48 + (k : Int) / 100 % 10)] 5)) := by
  refine run_convert_bytes_arg (P := Tryz.prog) _ 140 5 Tryz.underlying140 Tryz.underlying5 w.heap.size 0 6 6 [109, 65 + (i : Int) % 26, 65 + (i : Int) / 26 % 26, 48 + (k : Int) % 10, 48 + (k : Int) / 10 % 10, 48 + (k : Int) / 100 % 10] rfl (fun j hj => ?_) 9 Tryz.underlying9
  rw [Nat.zero_add, World.cell?_alloc_new]
  match j, hj with
  | 0, _ => rfl
  | 1, _ => rfl
  | 2, _ => rfl
  | 3, _ => rfl
  | 4, _ => rfl
  | 5, _ => rfl
theorem Tryz.bkTextInfo : (Tryz.prog.info? 9).map (fun i => (i.zero, i.size, i.bytes)) = some (some (.string ⟨#[]⟩), 1, 16) := by kernel_rfl
/-- the marks of list i, from a place on -/
def textMarks (i a n : Nat) : List Value := (List.range n).map fun j => .string (nameB i (a + j))
theorem textMarks_succ (i a n : Nat) : textMarks i a (n + 1) = textMarks i a n ++ [.string (nameB i (a + n))] := by unfold textMarks; rw [List.range_succ, List.map_append]; rfl
theorem textMarks_length (i a n : Nat) : (textMarks i a n).length = n := by simp [textMarks]
def goodTexts (xs : List Value) : Prop := ∃ ss : List ByteArray, xs = ss.map .string ∧ ss.length ≤ 1000000
end Go.Proofs.YtlomfmilohbgpaaGreatDoor
