
/- An api.State that came in. -/
import Derived.Test.YtgabemlehmhgpaaDoorMachMem
import Derived.Test.YtgabemlehmhgpaaDoorReadsArg
import Derived.Deep.Slices
import Derived.ProofKit
import Derived.ChangeSlices
namespace Go.Proofs.YtgabemlehmhgpaaDoor.Mach
open Go.ChangeShapes Go.WideShapes Go.ChangeAt Go.RowKit
set_option linter.unusedVariables false
set_option linter.unusedSimpArgs false
set_option maxRecDepth 1000000 in
theorem cells_ints : Tryd.prog.cellsOf 24 = 1 := by kernel_rfl
set_option maxRecDepth 1000000 in
theorem cells_text : Tryd.prog.cellsOf 9 = 1 := by kernel_rfl
set_option maxRecDepth 1000000 in
theorem cells_state : Tryd.prog.cellsOf 28 = 10 := by kernel_rfl
theorem readsC_of_trod {H : Type} {enc : TypeId × Value → H} {W : World} {k : Nat} {u : Value} {y : DataW H × List MemPlace} (h : DataW.trod enc Tryd.prog W 0 (fun _ => true) true k 24 [u] = some y) : ∃ xs, ReadsC W u xs ∧ ∀ x ∈ xs, Cell.In x := by
  rcases open_ints Tryd.underlying24 Tryd.underlying3 cells_int h with ⟨hcs, hx⟩ | ⟨a, len', cap', zs, hcs, _, hl, hm, hmm, hx, hcell, hwf⟩
  · simp at hcs
    subst hcs
    exact ⟨[], ⟨⟨none, 0, rfl, fun j s h => by cases h⟩, none, 0, rfl, Nat.le_refl _⟩, fun x h => by cases h⟩
  · simp at hcs
    subst hcs
    simp only [if_true] at hmm
    refine ⟨zs.take len', ⟨⟨some a, cap', by rw [List.length_take, Nat.min_eq_left (by omega)], fun j x h => ⟨a, rfl, ?_⟩⟩, some a, cap', by rw [List.length_take, Nat.min_eq_left (by omega)], by rw [List.length_take]; omega⟩, fun x hx => ?_⟩
    · have hj := (List.getElem?_eq_some_iff.1 h).1
      rw [List.length_take] at hj
      rw [List.getElem?_take, if_pos (by omega)] at h
      have := hcell j (by omega)
      rw [List.getD_eq_getElem?_getD, h] at this
      exact this
    · have := hwf x (List.mem_of_mem_take hx)
      simpa [Lit.wf, Cell.In, IntKind.min, IntKind.signed, IntKind.bits] using this
set_option maxRecDepth 100000 in
theorem stateOf {H : Type} {enc : TypeId × Value → H} {W : World} {base : Nat} {v : Value} {d : DataW H} {p : List MemPlace} (hv : Value.okWide Tryd.prog W .any base 28 v) (h : DataW.Trod enc Tryd.prog W 0 (fun _ => true) true 28 v d p) : ∃ m, ReadsM W v m ∧ Cells m ∧ m.inp.size ≤ maxLen ∧ m.out.size ≤ maxLen ∧ Cell.In m.read ∧ Cell.In m.status := by
  obtain ⟨cs, rfl, hsz⟩ := okWide_struct Tryd.underlying28 hv
  obtain ⟨fuel, hf⟩ := h
  have hsz : cs.size = 10 := hsz.trans cells_state
  obtain ⟨ys, k, _, _, _, hyl, hg⟩ := DataW.trod_struct Tryd.underlying28 hf
  match ys, hyl, cs, hsz with
  | [y0, y1, y2, y3, y4, y5, y6, y7, y8, y9], _, ⟨[c0, c1, c2, c3, c4, c5, c6, c7, c8, c9]⟩, _ =>
    have g0 : DataW.trod enc Tryd.prog W 0 (fun _ => true) true k 3 [c0] = some y0 := by have := hg 0 _ rfl; simpa [cells_int, cells_ints, cells_text, Value.cells] using this
    have g1 : DataW.trod enc Tryd.prog W 0 (fun _ => true) true k 3 [c1] = some y1 := by have := hg 1 _ rfl; simpa [cells_int, cells_ints, cells_text, Value.cells] using this
    have g2 : DataW.trod enc Tryd.prog W 0 (fun _ => true) true k 24 [c2] = some y2 := by have := hg 2 _ rfl; simpa [cells_int, cells_ints, cells_text, Value.cells] using this
    have g3 : DataW.trod enc Tryd.prog W 0 (fun _ => true) true k 24 [c3] = some y3 := by have := hg 3 _ rfl; simpa [cells_int, cells_ints, cells_text, Value.cells] using this
    have g4 : DataW.trod enc Tryd.prog W 0 (fun _ => true) true k 24 [c4] = some y4 := by have := hg 4 _ rfl; simpa [cells_int, cells_ints, cells_text, Value.cells] using this
    have g5 : DataW.trod enc Tryd.prog W 0 (fun _ => true) true k 9 [c5] = some y5 := by have := hg 5 _ rfl; simpa [cells_int, cells_ints, cells_text, Value.cells] using this
    have g6 : DataW.trod enc Tryd.prog W 0 (fun _ => true) true k 9 [c6] = some y6 := by have := hg 6 _ rfl; simpa [cells_int, cells_ints, cells_text, Value.cells] using this
    have g7 : DataW.trod enc Tryd.prog W 0 (fun _ => true) true k 3 [c7] = some y7 := by have := hg 7 _ rfl; simpa [cells_int, cells_ints, cells_text, Value.cells] using this
    have g8 : DataW.trod enc Tryd.prog W 0 (fun _ => true) true k 3 [c8] = some y8 := by have := hg 8 _ rfl; simpa [cells_int, cells_ints, cells_text, Value.cells] using this
    have g9 : DataW.trod enc Tryd.prog W 0 (fun _ => true) true k 3 [c9] = some y9 := by have := hg 9 _ rfl; simpa [cells_int, cells_ints, cells_text, Value.cells] using this
    obtain ⟨z0, e0, _, f0⟩ := DataW.trod_int Tryd.underlying3 g0
    obtain ⟨z1, e1, _, f1⟩ := DataW.trod_int Tryd.underlying3 g1
    obtain ⟨z7, e7, _, f7⟩ := DataW.trod_int Tryd.underlying3 g7
    obtain ⟨z8, e8, _, f8⟩ := DataW.trod_int Tryd.underlying3 g8
    obtain ⟨z9, e9, _, f9⟩ := DataW.trod_int Tryd.underlying3 g9
    obtain ⟨x2, r2, n2⟩ := readsC_of_trod g2
    obtain ⟨x3, r3, n3⟩ := readsC_of_trod g3
    obtain ⟨x4, r4, n4⟩ := readsC_of_trod g4
    obtain ⟨s5, e5, _, f5⟩ := DataW.trod_string Tryd.underlying9 g5
    obtain ⟨s6, e6, _, f6⟩ := DataW.trod_string Tryd.underlying9 g6
    simp at e0 e1 e5 e6 e7 e8 e9
    subst e0; subst e1; subst e5; subst e6; subst e7; subst e8; subst e9
    have inn : ∀ {z : Int}, (Lit.int .i64 z).wf = true → Cell.In z := fun h => by simpa [Lit.wf, Cell.In, IntKind.min, IntKind.signed, IntKind.bits] using h
    exact ⟨⟨z0, z1, x2, x3, x4, s5, s6, z7, z8, z9⟩, ⟨c2, c3, c4, rfl, r2, r3, r4⟩, ⟨inn f0, inn f1, n2, n3, n4, inn f9⟩, f6, f5, inn f7, inn f8⟩
end Go.Proofs.YtgabemlehmhgpaaDoor.Mach
