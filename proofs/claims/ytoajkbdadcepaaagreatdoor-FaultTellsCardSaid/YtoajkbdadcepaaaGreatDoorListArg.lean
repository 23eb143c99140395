/- A []string that came in. -/
import Derived.Test.YtoajkbdadcepaaaGreatDoorRows
import Derived.WalkKit
import Derived.ProofKit
import Derived.Deep.Strs
namespace Go.Proofs.YtoajkbdadcepaaaGreatDoor
open Go.ChangeShapes Go.WideShapes Go.ChangeAt Go.RowKit Go.Deep
set_option linter.unusedVariables false
/-- a list of texts that came in -/
def ListOf (w : World) (v : Value) (ss : List ByteArray) : Prop := ∃ ao cap, v = .slice ao ss.length cap ∧ ∀ j s, ss[j]? = some s → ∃ a, ao = some a ∧ w.cell? (a.add j) = some (.string s)
set_option maxRecDepth 1000000 in
theorem cells_string : Tryz.prog.cellsOf 9 = 1 := by kernel_rfl
set_option maxRecDepth 100000 in
theorem listOf {H : Type} {enc : TypeId × Value → H} {W : World} {base : Nat} {v : Value} {d : DataW H} {p : List MemPlace} (hv : Value.okWide Tryz.prog W .any base 22 v) (h : DataW.Trod enc Tryz.prog W 0 (fun _ => true) true 22 v d p) : ∃ ss, ListOf W v ss := by
  obtain ⟨a0, len, cap, rfl⟩ := okWide_slice Tryz.underlying22 hv
  obtain ⟨fuel, hf⟩ := h
  rcases open_strs Tryz.underlying22 Tryz.underlying9 cells_string hf with ⟨hcs, hx⟩ | ⟨a, len', cap', m, Sx, hcs, _, hl, hm, hmm, hx, hcell⟩
  · simp [Value.cells] at hcs
    obtain ⟨rfl, rfl, rfl⟩ := hcs
    exact ⟨[], none, 0, rfl, fun j s h => by cases h⟩
  · simp [Value.cells] at hcs
    obtain ⟨rfl, rfl, rfl⟩ := hcs
    simp only [if_true] at hmm
    refine ⟨(List.range len).map Sx, some a, cap, by simp, fun j s h => ⟨a, rfl, ?_⟩⟩
    rw [List.getElem?_map] at h
    by_cases hj : j < len
    · rw [List.getElem?_range hj] at h
      simp at h
      subst h
      exact (hcell j (by omega)).1
    · rw [List.getElem?_eq_none (by simp; omega)] at h
      cases h
end Go.Proofs.YtoajkbdadcepaaaGreatDoor
