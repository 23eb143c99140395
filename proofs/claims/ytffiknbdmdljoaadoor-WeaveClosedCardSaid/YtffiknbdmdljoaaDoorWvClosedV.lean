
/- WeaveClosed: the walk, as its frame wants it. -/
import Derived.Test.YtffiknbdmdljoaaDoorWvClosedW
namespace Go.Proofs.YtffiknbdmdljoaaDoor.WeaveClosed
open Go.RowKit Wv
theorem walk (vl : Value) (xs : List Int) (here : Int) (W : World) (hr : Reads W vl xs ∧ ∀ x ∈ xs, (Lit.int .i64 x).wf = true) (_ : (Lit.int .i64 here).wf = true) (hn : NamesIs W) : Calls Tryd.prog 4 #[vl, .int .i64 here] W (Yes W) :=
  main vl xs here W hr.1 hn
end Go.Proofs.YtffiknbdmdljoaaDoor.WeaveClosed
