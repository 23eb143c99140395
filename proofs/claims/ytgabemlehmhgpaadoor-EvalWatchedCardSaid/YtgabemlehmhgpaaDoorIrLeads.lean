
/- Package ir: does an exit lead? -/
import Derived.Test.YtgabemlehmhgpaaDoorIrNamed
import Derived.Deep.RegionHeld3
import Derived.IntWalk
import Derived.Deep.DeepCutAuto
namespace Go.Proofs.YtgabemlehmhgpaaDoor.Ir
open Go.RowKit Book Mem
set_option linter.unusedSimpArgs false
set_option linter.unusedVariables false
/-- no list of a trace is too long -/
structure Small (t : T) : Prop where
  ins : t.ins.length ≤ 1000000
  outs : t.outs.length ≤ 1000000
  cells : t.cells.length ≤ 1000000
  stack : ∀ o ∈ t.outs, o.stack.length ≤ 1000000 ∧ o.back.length ≤ 1000000
theorem cellOn {w w' : World} {a : Addr} {v : Value} (hb : Below w.heap.size w w') (h : w.cell? a = some v) : w'.cell? a = some v := by rw [hb.cell (World.block_lt_of_cell? w _ h)]; exact h
theorem on11 {w w' : World} (hb : Below w.heap.size w w') {a0 a1 a2 a3 a4 a5 a6 a7 a8 a9 a10 : Addr} {v0 v1 v2 v3 v4 v5 v6 v7 v8 v9 v10 : Value} (h : w.cell? a0 = some v0 ∧ w.cell? a1 = some v1 ∧ w.cell? a2 = some v2 ∧ w.cell? a3 = some v3 ∧ w.cell? a4 = some v4 ∧ w.cell? a5 = some v5 ∧ w.cell? a6 = some v6 ∧ w.cell? a7 = some v7 ∧ w.cell? a8 = some v8 ∧ w.cell? a9 = some v9 ∧ w.cell? a10 = some v10) :
    w'.cell? a0 = some v0 ∧ w'.cell? a1 = some v1 ∧ w'.cell? a2 = some v2 ∧ w'.cell? a3 = some v3 ∧ w'.cell? a4 = some v4 ∧ w'.cell? a5 = some v5 ∧ w'.cell? a6 = some v6 ∧ w'.cell? a7 = some v7 ∧ w'.cell? a8 = some v8 ∧ w'.cell? a9 = some v9 ∧ w'.cell? a10 = some v10 := by
  obtain ⟨h0, h1, h2, h3, h4, h5, h6, h7, h8, h9, h10⟩ := h
  exact ⟨cellOn hb h0, cellOn hb h1, cellOn hb h2, cellOn hb h3, cellOn hb h4, cellOn hb h5, cellOn hb h6, cellOn hb h7, cellOn hb h8, cellOn hb h9, cellOn hb h10⟩
end Go.Proofs.YtgabemlehmhgpaaDoor.Ir
