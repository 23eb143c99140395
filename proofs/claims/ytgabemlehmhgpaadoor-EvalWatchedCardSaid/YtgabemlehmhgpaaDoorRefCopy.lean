
/- The document's own machine (chapter 9): copying, beginning a word. -/
import Derived.Test.YtgabemlehmhgpaaDoorRefMach
import Derived.Laws.ResultCell
import Derived.Deep.DeepCutAuto
namespace Go.Proofs.YtgabemlehmhgpaaDoor.Mach
open Go.RowKit Book Mem
set_option linter.unusedVariables false
set_option linter.unusedSimpArgs false
/-- the int type's facts, in one -/
theorem int_facts : ∃ i0 : TypeInfo, Tryd.prog.info? 3 = some i0 ∧ i0.zero = some (.int .i64 0) ∧ i0.size = 1 ∧ i0.bytes = 8 := by
  obtain ⟨i0, q1, q2, q3, q4⟩ := info_parts Tryd.bkIntInfo
  exact ⟨i0, q1, q2, q3, q4⟩
/-- what is known of the blocks of two lists: none is another one's -/
def offB (v : Value) (k : Nat) : Prop := blk v ≠ some k
theorem blk_new {w : World} {v : Value} (h : blk v = blk (.slice none 0 0) ∨ ∃ k, blk v = some k ∧ w.heap.size ≤ k) : ∀ k, blk v = some k → w.heap.size ≤ k := by
  intro k hk
  rcases h with e | ⟨k', e, h⟩
  · rw [e] at hk; cases hk
  · rw [e] at hk
    simp at hk
    omega
theorem slice_one {v : Value} {n : Nat} (h : ∃ ao c, v = .slice ao n c) : v.oneCell' = true := by
  obtain ⟨ao, c, rfl⟩ := h
  rfl
theorem all_one {ip hh : Int} {vs vb vm : Value} {ou inn : ByteArray} {rd stt cd : Int} (h1 : vs.oneCell' = true) (h2 : vb.oneCell' = true) (h3 : vm.oneCell' = true) : (cells10 ip hh vs vb vm ou inn rd stt cd).all (·.oneCell') = true := by
  simp [cells10, h1, h2, h3, show ∀ k n, (Value.int k n).oneCell' = true from fun _ _ => rfl, show ∀ s, (Value.string s).oneCell' = true from fun _ => rfl]
theorem refCopy_ends : True := trivial
end Go.Proofs.YtgabemlehmhgpaaDoor.Mach
