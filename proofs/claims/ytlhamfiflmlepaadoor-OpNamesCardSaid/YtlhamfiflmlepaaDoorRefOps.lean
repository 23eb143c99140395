/- The document's own answers on operations: names, operands, what they take and give. -/
import Derived.Test.YtlhamfiflmlepaaDoorRows
import Derived.Test.YtlhamfiflmlepaaDoorBookPlain
import Derived.WalkKit
import Derived.ProofKit
import Derived.Lib.Hide
namespace Go.Proofs.YtlhamfiflmlepaaDoor
open Go.RowKit
set_option linter.unusedSimpArgs false
set_option linter.unusedVariables false
/-- the names of the operations -/
def opNames : List ByteArray := [⟨#[72, 65, 76, 84]⟩, ⟨#[69, 78, 68, 67, 65, 84, 67, 72]⟩, ⟨#[76, 73, 84]⟩, ⟨#[66, 82, 65, 78, 67, 72]⟩, ⟨#[48, 66, 82, 65, 78, 67, 72]⟩, ⟨#[69, 88, 73, 84]⟩, ⟨#[68, 85, 80]⟩, ⟨#[68, 82, 79, 80]⟩, ⟨#[83, 87, 65, 80]⟩, ⟨#[79, 86, 69, 82]⟩, ⟨#[82, 79, 84]⟩, ⟨#[43]⟩, ⟨#[45]⟩, ⟨#[42]⟩, ⟨#[47]⟩, ⟨#[77, 79, 68]⟩, ⟨#[78, 69, 71, 65, 84, 69]⟩, ⟨#[65, 78, 68]⟩, ⟨#[79, 82]⟩, ⟨#[88, 79, 82]⟩, ⟨#[73, 78, 86, 69, 82, 84]⟩, ⟨#[76, 83, 72, 73, 70, 84]⟩, ⟨#[82, 83, 72, 73, 70, 84]⟩, ⟨#[61]⟩, ⟨#[60]⟩, ⟨#[85, 60]⟩, ⟨#[48, 61]⟩, ⟨#[48, 60]⟩, ⟨#[77, 73, 78]⟩, ⟨#[77, 65, 88]⟩, ⟨#[64]⟩, ⟨#[33]⟩, ⟨#[43, 33]⟩, ⟨#[62, 82]⟩, ⟨#[82, 62]⟩, ⟨#[82, 64]⟩, ⟨#[40, 68, 79, 41]⟩, ⟨#[40, 76, 79, 79, 80, 41]⟩, ⟨#[40, 43, 76, 79, 79, 80, 41]⟩, ⟨#[74]⟩, ⟨#[85, 78, 76, 79, 79, 80]⟩, ⟨#[69, 77, 73, 84]⟩, ⟨#[46]⟩, ⟨#[75, 69, 89]⟩, ⟨#[69, 88, 69, 67, 85, 84, 69]⟩, ⟨#[84, 72, 82, 79, 87]⟩, ⟨#[67, 65, 84, 67, 72]⟩, ⟨#[78, 79, 80]⟩]
/-- what they take of both stacks, and give -/
def opMoves : List (Int × Int × Int × Int) := [(0, 0, 0, 0), (0, 0, 0, 0), (0, 0, 1, 0), (0, 0, 0, 0), (1, 0, 0, 0), (0, 1, 0, 0), (1, 0, 2, 0), (1, 0, 0, 0), (2, 0, 2, 0), (2, 0, 3, 0), (3, 0, 3, 0), (2, 0, 1, 0), (2, 0, 1, 0), (2, 0, 1, 0), (2, 0, 1, 0), (2, 0, 1, 0), (1, 0, 1, 0), (2, 0, 1, 0), (2, 0, 1, 0), (2, 0, 1, 0), (1, 0, 1, 0), (2, 0, 1, 0), (2, 0, 1, 0), (2, 0, 1, 0), (2, 0, 1, 0), (2, 0, 1, 0), (1, 0, 1, 0), (1, 0, 1, 0), (2, 0, 1, 0), (2, 0, 1, 0), (1, 0, 1, 0), (2, 0, 0, 0), (2, 0, 0, 0), (1, 0, 0, 1), (0, 1, 1, 0), (0, 1, 1, 1), (2, 0, 0, 2), (0, 2, 0, 2), (1, 2, 0, 2), (0, 3, 1, 3), (0, 2, 0, 0), (1, 0, 0, 0), (1, 0, 0, 0), (0, 0, 1, 0), (1, 0, 0, 1), (1, 0, 0, 0), (1, 0, 0, 4), (0, 0, 0, 0)]
theorem opNames_length : opNames.length = 48 := rfl
theorem opMoves_length : opMoves.length = 48 := rfl
/-- is it an operation? -/
abbrev isOp (a : Int) : Prop := 0 ≤ a ∧ a < 48
def nameOf (k : Nat) : ByteArray := opNames.getD k ⟨#[]⟩
def movesOf (k : Nat) : Int × Int × Int × Int := opMoves.getD k (0, 0, 0, 0)
theorem refOp_any (a : Int) (w : World) : Calls Tryd.prog 15 #[.int .i64 a] w fun e w' => e = .returned (.bool (decide (isOp a))) ∧ w' = w := by
  by_cases h0 : 0 ≤ a
  · have e0 : decide (isOp a) = decide (a < 48) := by simp [isOp, h0]
    rw [e0]
    clear e0
    go_enter Tryd.func15, Tryd.ntmps15
    go_wp2
    go_ret
    exact ⟨rfl, rfl⟩
  · have e0 : decide (isOp a) = false := by simp [isOp, h0]
    rw [e0]
    clear e0
    go_enter Tryd.func15, Tryd.ntmps15
    go_wp2
    go_ret
    exact ⟨rfl, rfl⟩
set_option maxRecDepth 100000 in
set_option maxHeartbeats 2000000 in
theorem refName_yes (k : Nat) (hk : k < 48) (w : World) : Calls Tryd.prog 12 #[.int .i64 k] w fun e w' => e = .returned (.string (nameOf k)) ∧ Below w.heap.size w w' := by
  have hb := (Below.refl w.heap.size w).alloc (Nat.le_refl _) (.cells (opNames.map Value.string).toArray 9)
  have hnew := heap_alloc_new w (.cells (opNames.map Value.string).toArray 9)
  have hw : w.alloc (.cells #[.string ⟨#[72, 65, 76, 84]⟩, .string ⟨#[69, 78, 68, 67, 65, 84, 67, 72]⟩, .string ⟨#[76, 73, 84]⟩, .string ⟨#[66, 82, 65, 78, 67, 72]⟩, .string ⟨#[48, 66, 82, 65, 78, 67, 72]⟩, .string ⟨#[69, 88, 73, 84]⟩, .string ⟨#[68, 85, 80]⟩, .string ⟨#[68, 82, 79, 80]⟩, .string ⟨#[83, 87, 65, 80]⟩, .string ⟨#[79, 86, 69, 82]⟩, .string ⟨#[82, 79, 84]⟩, .string ⟨#[43]⟩, .string ⟨#[45]⟩, .string ⟨#[42]⟩, .string ⟨#[47]⟩, .string ⟨#[77, 79, 68]⟩, .string ⟨#[78, 69, 71, 65, 84, 69]⟩, .string ⟨#[65, 78, 68]⟩, .string ⟨#[79, 82]⟩, .string ⟨#[88, 79, 82]⟩, .string ⟨#[73, 78, 86, 69, 82, 84]⟩, .string ⟨#[76, 83, 72, 73, 70, 84]⟩, .string ⟨#[82, 83, 72, 73, 70, 84]⟩, .string ⟨#[61]⟩, .string ⟨#[60]⟩, .string ⟨#[85, 60]⟩, .string ⟨#[48, 61]⟩, .string ⟨#[48, 60]⟩, .string ⟨#[77, 73, 78]⟩, .string ⟨#[77, 65, 88]⟩, .string ⟨#[64]⟩, .string ⟨#[33]⟩, .string ⟨#[43, 33]⟩, .string ⟨#[62, 82]⟩, .string ⟨#[82, 62]⟩, .string ⟨#[82, 64]⟩, .string ⟨#[40, 68, 79, 41]⟩, .string ⟨#[40, 76, 79, 79, 80, 41]⟩, .string ⟨#[40, 43, 76, 79, 79, 80, 41]⟩, .string ⟨#[74]⟩, .string ⟨#[85, 78, 76, 79, 79, 80]⟩, .string ⟨#[69, 77, 73, 84]⟩, .string ⟨#[46]⟩, .string ⟨#[75, 69, 89]⟩, .string ⟨#[69, 88, 69, 67, 85, 84, 69]⟩, .string ⟨#[84, 72, 82, 79, 87]⟩, .string ⟨#[67, 65, 84, 67, 72]⟩, .string ⟨#[78, 79, 80]⟩] 9) = w.alloc (.cells (opNames.map Value.string).toArray 9) := rfl
  obtain ⟨w1, hw1⟩ : ∃ w1, w.alloc (.cells (opNames.map Value.string).toArray 9) = w1 := ⟨_, rfl⟩
  rw [hw1] at hb hnew hw
  have kc : w1.cell? ⟨w.heap.size, k, none⟩ = some (.string (nameOf k)) := by
    refine Book.whole_cell hnew ?_
    rw [List.getElem?_toArray, List.getElem?_map, nameOf, List.getD_eq_getElem?_getD, List.getElem?_eq_getElem (by rw [opNames_length]; exact hk)]
    rfl
  have HB := Lib.hid hb
  clear hb hnew hw1
  have e0 : (0 : Int) ≤ (k : Int) := by omega
  have e1 : (k : Int) < 48 := by omega
  go_enter Tryd.func12, Tryd.ntmps12
  go_wp2
  go_ret
  exact ⟨rfl, HB.out⟩
set_option maxRecDepth 100000 in
set_option maxHeartbeats 2000000 in
theorem refName_no (a : Int) (ha : ¬ isOp a) (w : World) : Calls Tryd.prog 12 #[.int .i64 a] w fun e w' => e = .returned (.string ⟨#[]⟩) ∧ Below w.heap.size w w' := by
  have hb := (Below.refl w.heap.size w).alloc (Nat.le_refl _) (.cells (opNames.map Value.string).toArray 9)
  have hw : w.alloc (.cells #[.string ⟨#[72, 65, 76, 84]⟩, .string ⟨#[69, 78, 68, 67, 65, 84, 67, 72]⟩, .string ⟨#[76, 73, 84]⟩, .string ⟨#[66, 82, 65, 78, 67, 72]⟩, .string ⟨#[48, 66, 82, 65, 78, 67, 72]⟩, .string ⟨#[69, 88, 73, 84]⟩, .string ⟨#[68, 85, 80]⟩, .string ⟨#[68, 82, 79, 80]⟩, .string ⟨#[83, 87, 65, 80]⟩, .string ⟨#[79, 86, 69, 82]⟩, .string ⟨#[82, 79, 84]⟩, .string ⟨#[43]⟩, .string ⟨#[45]⟩, .string ⟨#[42]⟩, .string ⟨#[47]⟩, .string ⟨#[77, 79, 68]⟩, .string ⟨#[78, 69, 71, 65, 84, 69]⟩, .string ⟨#[65, 78, 68]⟩, .string ⟨#[79, 82]⟩, .string ⟨#[88, 79, 82]⟩, .string ⟨#[73, 78, 86, 69, 82, 84]⟩, .string ⟨#[76, 83, 72, 73, 70, 84]⟩, .string ⟨#[82, 83, 72, 73, 70, 84]⟩, .string ⟨#[61]⟩, .string ⟨#[60]⟩, .string ⟨#[85, 60]⟩, .string ⟨#[48, 61]⟩, .string ⟨#[48, 60]⟩, .string ⟨#[77, 73, 78]⟩, .string ⟨#[77, 65, 88]⟩, .string ⟨#[64]⟩, .string ⟨#[33]⟩, .string ⟨#[43, 33]⟩, .string ⟨#[62, 82]⟩, .string ⟨#[82, 62]⟩, .string ⟨#[82, 64]⟩, .string ⟨#[40, 68, 79, 41]⟩, .string ⟨#[40, 76, 79, 79, 80, 41]⟩, .string ⟨#[40, 43, 76, 79, 79, 80, 41]⟩, .string ⟨#[74]⟩, .string ⟨#[85, 78, 76, 79, 79, 80]⟩, .string ⟨#[69, 77, 73, 84]⟩, .string ⟨#[46]⟩, .string ⟨#[75, 69, 89]⟩, .string ⟨#[69, 88, 69, 67, 85, 84, 69]⟩, .string ⟨#[84, 72, 82, 79, 87]⟩, .string ⟨#[67, 65, 84, 67, 72]⟩, .string ⟨#[78, 79, 80]⟩] 9) = w.alloc (.cells (opNames.map Value.string).toArray 9) := rfl
  obtain ⟨w1, hw1⟩ : ∃ w1, w.alloc (.cells (opNames.map Value.string).toArray 9) = w1 := ⟨_, rfl⟩
  rw [hw1] at hb hw
  have HB := Lib.hid hb
  clear hb hw1
  rcases (by omega : a < 0 ∨ 48 ≤ a) with h | h
  all_goals
    clear ha
    go_enter Tryd.func12, Tryd.ntmps12
    go_wp2
    go_ret
    exact ⟨rfl, HB.out⟩
end Go.Proofs.YtlhamfiflmlepaaDoor
