/- PilePlays: the code in pieces. -/
import Derived.Test.YtpklbffphdfpdaaPileState
import Derived.Test.YtpklbffphdfpdaaPileOps
import Derived.Test.YtpklbffphdfpdaaSub
import Derived.Test.YtpklbffphdfpdaaUnguard
import Derived.Deep.LoopGhost
import Derived.Deep.DeepCutAuto
import Derived.Deep.CutBlock
import Derived.Deep.RegionHeld3
namespace Go.Proofs.Ytpklbffphdfpdaa.PilePlays
open Go.RowKit Book Mem
set_option linter.unusedSimpArgs false
set_option linter.unusedVariables false
/-- does a piece of code begin with this region? -/
def begins (k : Nat) : Code → Bool
  | .region n _ _ => n == k
  | .seq a _ => begins k a
  | _ => false
/-- the code from a region on -/
def fromRegion (k : Nat) : Code → Option Code
  | .seq a b => if begins k a then some (.seq a b) else match fromRegion k a with
    | some d => some d
    | none => if begins k b then some b else fromRegion k b
  | .block _ c => fromRegion k c
  | .loop c => fromRegion k c
  | .scope c => fromRegion k c
  | _ => none
/-- a block -/
def blockAt (k : Nat) : Code → Option Code
  | .block n c => if n == k then some (.block n c) else blockAt k c
  | .seq a b => match blockAt k a with
    | some d => some d
    | none => blockAt k b
  | .cond _ a b => match blockAt k a with
    | some d => some d
    | none => blockAt k b
  | .loop c => blockAt k c
  | .scope c => blockAt k c
  | _ => none
noncomputable def codeSw : Code := ((Try.f3.body.bind (blockAt 2)).getD .skip)
noncomputable def codeEnd : Code := ((Try.f3.body.bind (fromRegion 52)).getD .skip)
end Go.Proofs.Ytpklbffphdfpdaa.PilePlays
