
/- Package ir, and the document's answer to it: are places known ahead of one? -/
import Derived.Test.YtgabemlehmhgpaaDoorIrWalks
import Derived.Deep.LoopGhost
import Derived.Deep.RegionHeld3
import Derived.BigQuiet
import Derived.Deep.QuietTactic
namespace Go.Proofs.YtgabemlehmhgpaaDoor.Ir
open Go.RowKit Book Mem
set_option linter.unusedSimpArgs false
set_option linter.unusedVariables false
theorem drewN1_below (w : World) (q : Nat) : Below w.heap.size w (w.drewN q) := ⟨rfl, rfl, rfl, Nat.le_refl _, fun _ _ => rfl⟩
theorem drewN2_below (w : World) (q n : Nat) : Below w.heap.size w ((w.drewN q).drewN n) := ⟨rfl, rfl, rfl, Nat.le_refl _, fun _ _ => rfl⟩
theorem okP_at {ins : List I} {pn k : Nat} {x : I} (hx : ins[pn]? = some x) (h : pn < k) : okP ins (k : Int) (pn : Int) = gives x.1 := by
  unfold okP
  rw [within_yes (by omega) (by omega), opAt_some hx, Bool.true_and]
theorem okP_no {ins : List I} {k : Nat} {p : Int} (h : ¬ (0 ≤ p ∧ p < (k : Int))) : okP ins (k : Int) p = false := by
  unfold okP
  rw [within_no (by omega), Bool.false_and]
end Go.Proofs.YtgabemlehmhgpaaDoor.Ir
