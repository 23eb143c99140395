
/- The document's own answers on operations: what they take and give; which can be in a trace. -/
import Derived.Test.YtlomfmilohbgpaaGreatDoorRefKinds
namespace Go.Proofs.YtlomfmilohbgpaaGreatDoor
open Go.RowKit
set_option linter.unusedSimpArgs false
set_option linter.unusedVariables false
/-- four results -/
theorem results_tmp4 {fn : Func} {t u v x : Tmp} (h : fn.results = #[.tmp t, .tmp u, .tmp v, .tmp x]) (tmps : Array Value) (P : Program) (w : World) :
    (results fn tmps).run P w = .ok (.tuple #[tmps.getD t undef, tmps.getD u undef, tmps.getD v undef, tmps.getD x undef]) w := by
  simp [results, h]
end Go.Proofs.YtlomfmilohbgpaaGreatDoor
