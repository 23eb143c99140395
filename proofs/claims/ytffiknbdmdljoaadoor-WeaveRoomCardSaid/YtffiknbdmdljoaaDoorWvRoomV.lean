
/- WeaveRoom: the walk, as its frame wants it. -/
import Derived.Test.YtffiknbdmdljoaaDoorWvRoomW
namespace Go.Proofs.YtffiknbdmdljoaaDoor.WeaveRoom
open Go.RowKit Wv
theorem walk (n here : Int) (vo : Value) (ops : List OpIn) (W : World) (_ : (Lit.int .i64 n).wf = true) (_ : (Lit.int .i64 here).wf = true) (ho : OpsAt W vo ops) (hn : NamesIs W) : Calls Tryd.prog 5 #[.int .i64 n, .int .i64 here, vo] W (Yes W) :=
  main n here vo ops W ho hn
end Go.Proofs.YtffiknbdmdljoaaDoor.WeaveRoom
