/- FieldPlays: the code behind its blocks. -/
import Derived.Test.YtifcjcheokkojaaFieldAlive
import Derived.Test.YtifcjcheokkojaaFieldState
import Derived.Deep.LoopGhost
import Derived.Deep.DeepCutAuto
import Derived.Deep.CutBlock
namespace Go.Proofs.Ytifcjcheokkojaa.FieldPlays
open Go.RowKit Book Mem
set_option linter.unusedSimpArgs false
set_option linter.unusedVariables false
/-- does a piece of code end with this block? -/
def isBlock (k : Nat) : Code → Bool
  | .block n _ => n == k
  | .seq _ (.block n _) => n == k
  | _ => false
/-- the code that stands behind a block -/
def behind (k : Nat) : Code → Option Code
  | .seq a b => if isBlock k a then some b else match behind k a with
    | some d => some d
    | none => behind k b
  | .block _ c => behind k c
  | .loop c => behind k c
  | .scope c => behind k c
  | _ => none
noncomputable def codeEnd : Code := ((Try.f3.body.bind (behind 2)).getD .skip)
noncomputable def codeLast : Code := ((Try.f3.body.bind (behind 3)).getD .skip)
end Go.Proofs.Ytifcjcheokkojaa.FieldPlays
