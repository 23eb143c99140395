
/- A step leaves a machine of chapter 9 right. -/
import Derived.Test.YtgabemlehmhgpaaDoorMach
namespace Go.Proofs.YtgabemlehmhgpaaDoor.Mach
open Go.RowKit (wrap64)
open Go.Proofs.YtgabemlehmhgpaaDoor.Cell (In)
set_option linter.unusedVariables false
set_option linter.unusedSimpArgs false
/-- the lists have room, all else is as it was -/
theorem right_lists {s : M} (h : Right s) {ip handler : Int} {st bk mem : List Int} (h1 : st.length ≤ 48) (h2 : bk.length ≤ 48) (h3 : mem.length ≤ 3000) : Right { s with ip := ip, handler := handler, stack := st, back := bk, mem := mem } := ⟨h1, h2, h3, h.out, h.read0, h.read1, h.status0, h.status1⟩
theorem right_out {s : M} (h : Right s) {ip : Int} {st : List Int} {t : ByteArray} (h1 : st.length ≤ 48) (h2 : s.out.size + t.size ≤ 2000) : Right { s with ip := ip, stack := st, out := s.out ++ t } := ⟨h1, h.back, h.mem, by show (s.out ++ t).size ≤ 2000; rw [ByteArray.size_append]; exact h2, h.read0, h.read1, h.status0, h.status1⟩
/-- an operation on one cell -/
theorem exec_one (s : M) (i g : Int) {k : Nat} (hk : k ∈ [16, 20, 26, 27]) : exec k s i g = { s with ip := i, stack := less s.stack 1 ++ [(Cell.one k (nth s.stack 0)).1] } := by
  simp only [List.mem_cons, List.not_mem_nil, or_false] at hk
  rcases hk with rfl | rfl | rfl | rfl <;> rfl
/-- an operation on two cells -/
theorem exec_two (s : M) (i g : Int) {k : Nat} (hk : k ∈ [11, 12, 13, 14, 15, 17, 18, 19, 21, 22, 23, 24, 25, 28, 29]) : exec k s i g = if (Cell.two k (nth s.stack 1) (nth s.stack 0)).2 = true then { s with ip := i, stack := less s.stack 2 ++ [(Cell.two k (nth s.stack 1) (nth s.stack 0)).1] } else fault s (-10) := by
  simp only [List.mem_cons, List.not_mem_nil, or_false] at hk
  rcases hk with rfl | rfl | rfl | rfl | rfl | rfl | rfl | rfl | rfl | rfl | rfl | rfl | rfl | rfl | rfl <;> rfl
theorem right_one {s : M} (h : Right s) {i g : Int} (k : Nat) (hk : k ∈ [16, 20, 26, 27]) (hl : (less s.stack 1).length + 1 ≤ 48) : Right (exec k s i g) := by
  rw [exec_one s i g hk]
  exact right_lists h (by rw [List.length_append]; exact hl) h.back h.mem
theorem right_two {s : M} (h : Right s) {i g : Int} (k : Nat) (hk : k ∈ [11, 12, 13, 14, 15, 17, 18, 19, 21, 22, 23, 24, 25, 28, 29]) (hl : (less s.stack 2).length + 1 ≤ 48) : Right (exec k s i g) := by
  rw [exec_two s i g hk]
  split
  · exact right_lists h (by rw [List.length_append]; exact hl) h.back h.mem
  · exact fault_right h _
theorem exec_right {s : M} (h : Right s) (k : Nat) (hk : k < 48) (i g : Int) (h1 : (movesOf k).1 ≤ s.stack.length) (h2 : (movesOf k).2.1 ≤ s.back.length) (h3 : (s.stack.length : Int) - (movesOf k).1 + (movesOf k).2.2.1 ≤ 48) (h4 : (s.back.length : Int) - (movesOf k).2.1 + (movesOf k).2.2.2 ≤ 48) : Right (exec k s i g) := by
  have b1 := h.stack
  have b2 := h.back
  have b3 := h.mem
  match k, hk with
  | 0, _ =>
    rw [show movesOf 0 = (0, 0, 0, 0) from rfl] at h1 h2 h3 h4
    exact ⟨h.stack, h.back, h.mem, h.out, h.read0, h.read1, by show (0 : Int) ≤ 1; decide, by show (1 : Int) ≤ 2; decide⟩
  | 1, _ =>
    rw [show movesOf 1 = (0, 0, 0, 0) from rfl] at h1 h2 h3 h4
    simp only [exec]
    repeat' split
    all_goals first | exact fault_right h _ | exact right_lists h (by (simp only [List.length_append, List.length_cons, List.length_nil, List.length_set, less_length] at *; omega)) (by (simp only [List.length_append, List.length_cons, List.length_nil, List.length_set, less_length] at *; omega)) (by (simp only [List.length_append, List.length_cons, List.length_nil, List.length_set, less_length] at *; omega))
  | 2, _ =>
    rw [show movesOf 2 = (0, 0, 1, 0) from rfl] at h1 h2 h3 h4
    exact right_lists h (by (simp only [List.length_append, List.length_cons, List.length_nil, List.length_set, less_length] at *; omega)) (by (simp only [List.length_append, List.length_cons, List.length_nil, List.length_set, less_length] at *; omega)) (by (simp only [List.length_append, List.length_cons, List.length_nil, List.length_set, less_length] at *; omega))
  | 3, _ =>
    rw [show movesOf 3 = (0, 0, 0, 0) from rfl] at h1 h2 h3 h4
    exact right_lists h (by (simp only [List.length_append, List.length_cons, List.length_nil, List.length_set, less_length] at *; omega)) (by (simp only [List.length_append, List.length_cons, List.length_nil, List.length_set, less_length] at *; omega)) (by (simp only [List.length_append, List.length_cons, List.length_nil, List.length_set, less_length] at *; omega))
  | 4, _ =>
    rw [show movesOf 4 = (1, 0, 0, 0) from rfl] at h1 h2 h3 h4
    exact right_lists h (by (simp only [List.length_append, List.length_cons, List.length_nil, List.length_set, less_length] at *; omega)) (by (simp only [List.length_append, List.length_cons, List.length_nil, List.length_set, less_length] at *; omega)) (by (simp only [List.length_append, List.length_cons, List.length_nil, List.length_set, less_length] at *; omega))
  | 5, _ =>
    rw [show movesOf 5 = (0, 1, 0, 0) from rfl] at h1 h2 h3 h4
    exact right_lists h (by (simp only [List.length_append, List.length_cons, List.length_nil, List.length_set, less_length] at *; omega)) (by (simp only [List.length_append, List.length_cons, List.length_nil, List.length_set, less_length] at *; omega)) (by (simp only [List.length_append, List.length_cons, List.length_nil, List.length_set, less_length] at *; omega))
  | 6, _ =>
    rw [show movesOf 6 = (1, 0, 2, 0) from rfl] at h1 h2 h3 h4
    exact right_lists h (by (simp only [List.length_append, List.length_cons, List.length_nil, List.length_set, less_length] at *; omega)) (by (simp only [List.length_append, List.length_cons, List.length_nil, List.length_set, less_length] at *; omega)) (by (simp only [List.length_append, List.length_cons, List.length_nil, List.length_set, less_length] at *; omega))
  | 7, _ =>
    rw [show movesOf 7 = (1, 0, 0, 0) from rfl] at h1 h2 h3 h4
    exact right_lists h (by (simp only [List.length_append, List.length_cons, List.length_nil, List.length_set, less_length] at *; omega)) (by (simp only [List.length_append, List.length_cons, List.length_nil, List.length_set, less_length] at *; omega)) (by (simp only [List.length_append, List.length_cons, List.length_nil, List.length_set, less_length] at *; omega))
  | 8, _ =>
    rw [show movesOf 8 = (2, 0, 2, 0) from rfl] at h1 h2 h3 h4
    exact right_lists h (by (simp only [List.length_append, List.length_cons, List.length_nil, List.length_set, less_length] at *; omega)) (by (simp only [List.length_append, List.length_cons, List.length_nil, List.length_set, less_length] at *; omega)) (by (simp only [List.length_append, List.length_cons, List.length_nil, List.length_set, less_length] at *; omega))
  | 9, _ =>
    rw [show movesOf 9 = (2, 0, 3, 0) from rfl] at h1 h2 h3 h4
    exact right_lists h (by (simp only [List.length_append, List.length_cons, List.length_nil, List.length_set, less_length] at *; omega)) (by (simp only [List.length_append, List.length_cons, List.length_nil, List.length_set, less_length] at *; omega)) (by (simp only [List.length_append, List.length_cons, List.length_nil, List.length_set, less_length] at *; omega))
  | 10, _ =>
    rw [show movesOf 10 = (3, 0, 3, 0) from rfl] at h1 h2 h3 h4
    exact right_lists h (by (simp only [List.length_append, List.length_cons, List.length_nil, List.length_set, less_length] at *; omega)) (by (simp only [List.length_append, List.length_cons, List.length_nil, List.length_set, less_length] at *; omega)) (by (simp only [List.length_append, List.length_cons, List.length_nil, List.length_set, less_length] at *; omega))
  | 11, _ =>
    rw [show movesOf 11 = (2, 0, 1, 0) from rfl] at h1 h2 h3 h4
    exact right_two h 11 (by decide) (by (simp only [List.length_append, List.length_cons, List.length_nil, List.length_set, less_length] at *; omega))
  | 12, _ =>
    rw [show movesOf 12 = (2, 0, 1, 0) from rfl] at h1 h2 h3 h4
    exact right_two h 12 (by decide) (by (simp only [List.length_append, List.length_cons, List.length_nil, List.length_set, less_length] at *; omega))
  | 13, _ =>
    rw [show movesOf 13 = (2, 0, 1, 0) from rfl] at h1 h2 h3 h4
    exact right_two h 13 (by decide) (by (simp only [List.length_append, List.length_cons, List.length_nil, List.length_set, less_length] at *; omega))
  | 14, _ =>
    rw [show movesOf 14 = (2, 0, 1, 0) from rfl] at h1 h2 h3 h4
    exact right_two h 14 (by decide) (by (simp only [List.length_append, List.length_cons, List.length_nil, List.length_set, less_length] at *; omega))
  | 15, _ =>
    rw [show movesOf 15 = (2, 0, 1, 0) from rfl] at h1 h2 h3 h4
    exact right_two h 15 (by decide) (by (simp only [List.length_append, List.length_cons, List.length_nil, List.length_set, less_length] at *; omega))
  | 16, _ =>
    rw [show movesOf 16 = (1, 0, 1, 0) from rfl] at h1 h2 h3 h4
    exact right_one h 16 (by decide) (by (simp only [List.length_append, List.length_cons, List.length_nil, List.length_set, less_length] at *; omega))
  | 17, _ =>
    rw [show movesOf 17 = (2, 0, 1, 0) from rfl] at h1 h2 h3 h4
    exact right_two h 17 (by decide) (by (simp only [List.length_append, List.length_cons, List.length_nil, List.length_set, less_length] at *; omega))
  | 18, _ =>
    rw [show movesOf 18 = (2, 0, 1, 0) from rfl] at h1 h2 h3 h4
    exact right_two h 18 (by decide) (by (simp only [List.length_append, List.length_cons, List.length_nil, List.length_set, less_length] at *; omega))
  | 19, _ =>
    rw [show movesOf 19 = (2, 0, 1, 0) from rfl] at h1 h2 h3 h4
    exact right_two h 19 (by decide) (by (simp only [List.length_append, List.length_cons, List.length_nil, List.length_set, less_length] at *; omega))
  | 20, _ =>
    rw [show movesOf 20 = (1, 0, 1, 0) from rfl] at h1 h2 h3 h4
    exact right_one h 20 (by decide) (by (simp only [List.length_append, List.length_cons, List.length_nil, List.length_set, less_length] at *; omega))
  | 21, _ =>
    rw [show movesOf 21 = (2, 0, 1, 0) from rfl] at h1 h2 h3 h4
    exact right_two h 21 (by decide) (by (simp only [List.length_append, List.length_cons, List.length_nil, List.length_set, less_length] at *; omega))
  | 22, _ =>
    rw [show movesOf 22 = (2, 0, 1, 0) from rfl] at h1 h2 h3 h4
    exact right_two h 22 (by decide) (by (simp only [List.length_append, List.length_cons, List.length_nil, List.length_set, less_length] at *; omega))
  | 23, _ =>
    rw [show movesOf 23 = (2, 0, 1, 0) from rfl] at h1 h2 h3 h4
    exact right_two h 23 (by decide) (by (simp only [List.length_append, List.length_cons, List.length_nil, List.length_set, less_length] at *; omega))
  | 24, _ =>
    rw [show movesOf 24 = (2, 0, 1, 0) from rfl] at h1 h2 h3 h4
    exact right_two h 24 (by decide) (by (simp only [List.length_append, List.length_cons, List.length_nil, List.length_set, less_length] at *; omega))
  | 25, _ =>
    rw [show movesOf 25 = (2, 0, 1, 0) from rfl] at h1 h2 h3 h4
    exact right_two h 25 (by decide) (by (simp only [List.length_append, List.length_cons, List.length_nil, List.length_set, less_length] at *; omega))
  | 26, _ =>
    rw [show movesOf 26 = (1, 0, 1, 0) from rfl] at h1 h2 h3 h4
    exact right_one h 26 (by decide) (by (simp only [List.length_append, List.length_cons, List.length_nil, List.length_set, less_length] at *; omega))
  | 27, _ =>
    rw [show movesOf 27 = (1, 0, 1, 0) from rfl] at h1 h2 h3 h4
    exact right_one h 27 (by decide) (by (simp only [List.length_append, List.length_cons, List.length_nil, List.length_set, less_length] at *; omega))
  | 28, _ =>
    rw [show movesOf 28 = (2, 0, 1, 0) from rfl] at h1 h2 h3 h4
    exact right_two h 28 (by decide) (by (simp only [List.length_append, List.length_cons, List.length_nil, List.length_set, less_length] at *; omega))
  | 29, _ =>
    rw [show movesOf 29 = (2, 0, 1, 0) from rfl] at h1 h2 h3 h4
    exact right_two h 29 (by decide) (by (simp only [List.length_append, List.length_cons, List.length_nil, List.length_set, less_length] at *; omega))
  | 30, _ =>
    rw [show movesOf 30 = (1, 0, 1, 0) from rfl] at h1 h2 h3 h4
    simp only [exec]
    repeat' split
    all_goals first | exact fault_right h _ | exact right_lists h (by (simp only [List.length_append, List.length_cons, List.length_nil, List.length_set, less_length] at *; omega)) (by (simp only [List.length_append, List.length_cons, List.length_nil, List.length_set, less_length] at *; omega)) (by (simp only [List.length_append, List.length_cons, List.length_nil, List.length_set, less_length] at *; omega))
  | 31, _ =>
    rw [show movesOf 31 = (2, 0, 0, 0) from rfl] at h1 h2 h3 h4
    simp only [exec]
    repeat' split
    all_goals first | exact fault_right h _ | exact right_lists h (by (simp only [List.length_append, List.length_cons, List.length_nil, List.length_set, less_length] at *; omega)) (by (simp only [List.length_append, List.length_cons, List.length_nil, List.length_set, less_length] at *; omega)) (by (simp only [List.length_append, List.length_cons, List.length_nil, List.length_set, less_length] at *; omega))
  | 32, _ =>
    rw [show movesOf 32 = (2, 0, 0, 0) from rfl] at h1 h2 h3 h4
    simp only [exec]
    repeat' split
    all_goals first | exact fault_right h _ | exact right_lists h (by (simp only [List.length_append, List.length_cons, List.length_nil, List.length_set, less_length] at *; omega)) (by (simp only [List.length_append, List.length_cons, List.length_nil, List.length_set, less_length] at *; omega)) (by (simp only [List.length_append, List.length_cons, List.length_nil, List.length_set, less_length] at *; omega))
  | 33, _ =>
    rw [show movesOf 33 = (1, 0, 0, 1) from rfl] at h1 h2 h3 h4
    exact right_lists h (by (simp only [List.length_append, List.length_cons, List.length_nil, List.length_set, less_length] at *; omega)) (by (simp only [List.length_append, List.length_cons, List.length_nil, List.length_set, less_length] at *; omega)) (by (simp only [List.length_append, List.length_cons, List.length_nil, List.length_set, less_length] at *; omega))
  | 34, _ =>
    rw [show movesOf 34 = (0, 1, 1, 0) from rfl] at h1 h2 h3 h4
    exact right_lists h (by (simp only [List.length_append, List.length_cons, List.length_nil, List.length_set, less_length] at *; omega)) (by (simp only [List.length_append, List.length_cons, List.length_nil, List.length_set, less_length] at *; omega)) (by (simp only [List.length_append, List.length_cons, List.length_nil, List.length_set, less_length] at *; omega))
  | 35, _ =>
    rw [show movesOf 35 = (0, 1, 1, 1) from rfl] at h1 h2 h3 h4
    exact right_lists h (by (simp only [List.length_append, List.length_cons, List.length_nil, List.length_set, less_length] at *; omega)) (by (simp only [List.length_append, List.length_cons, List.length_nil, List.length_set, less_length] at *; omega)) (by (simp only [List.length_append, List.length_cons, List.length_nil, List.length_set, less_length] at *; omega))
  | 36, _ =>
    rw [show movesOf 36 = (2, 0, 0, 2) from rfl] at h1 h2 h3 h4
    exact right_lists h (by (simp only [List.length_append, List.length_cons, List.length_nil, List.length_set, less_length] at *; omega)) (by (simp only [List.length_append, List.length_cons, List.length_nil, List.length_set, less_length] at *; omega)) (by (simp only [List.length_append, List.length_cons, List.length_nil, List.length_set, less_length] at *; omega))
  | 37, _ =>
    rw [show movesOf 37 = (0, 2, 0, 2) from rfl] at h1 h2 h3 h4
    simp only [exec]
    repeat' split
    all_goals first | exact fault_right h _ | exact right_lists h (by (simp only [List.length_append, List.length_cons, List.length_nil, List.length_set, less_length] at *; omega)) (by (simp only [List.length_append, List.length_cons, List.length_nil, List.length_set, less_length] at *; omega)) (by (simp only [List.length_append, List.length_cons, List.length_nil, List.length_set, less_length] at *; omega))
  | 38, _ =>
    rw [show movesOf 38 = (1, 2, 0, 2) from rfl] at h1 h2 h3 h4
    simp only [exec]
    repeat' split
    all_goals first | exact fault_right h _ | exact right_lists h (by (simp only [List.length_append, List.length_cons, List.length_nil, List.length_set, less_length] at *; omega)) (by (simp only [List.length_append, List.length_cons, List.length_nil, List.length_set, less_length] at *; omega)) (by (simp only [List.length_append, List.length_cons, List.length_nil, List.length_set, less_length] at *; omega))
  | 39, _ =>
    rw [show movesOf 39 = (0, 3, 1, 3) from rfl] at h1 h2 h3 h4
    exact right_lists h (by (simp only [List.length_append, List.length_cons, List.length_nil, List.length_set, less_length] at *; omega)) (by (simp only [List.length_append, List.length_cons, List.length_nil, List.length_set, less_length] at *; omega)) (by (simp only [List.length_append, List.length_cons, List.length_nil, List.length_set, less_length] at *; omega))
  | 40, _ =>
    rw [show movesOf 40 = (0, 2, 0, 0) from rfl] at h1 h2 h3 h4
    exact right_lists h (by (simp only [List.length_append, List.length_cons, List.length_nil, List.length_set, less_length] at *; omega)) (by (simp only [List.length_append, List.length_cons, List.length_nil, List.length_set, less_length] at *; omega)) (by (simp only [List.length_append, List.length_cons, List.length_nil, List.length_set, less_length] at *; omega))
  | 41, _ =>
    rw [show movesOf 41 = (1, 0, 0, 0) from rfl] at h1 h2 h3 h4
    simp only [exec]
    split
    · exact fault_right h _
    · rename_i hr; exact right_out h (by (simp only [List.length_append, List.length_cons, List.length_nil, List.length_set, less_length] at *; omega)) (by show s.out.size + 1 ≤ 2000; omega)
  | 42, _ =>
    rw [show movesOf 42 = (1, 0, 0, 0) from rfl] at h1 h2 h3 h4
    simp only [exec]
    split
    · exact fault_right h _
    · rename_i hr; exact right_out h (by (simp only [List.length_append, List.length_cons, List.length_nil, List.length_set, less_length] at *; omega)) (by rw [ByteArray.size_append]; show s.out.size + ((Lib.itoa (nth s.stack 0)).toArray.size + 1) ≤ 2000; rw [List.size_toArray]; omega)
  | 43, _ =>
    rw [show movesOf 43 = (0, 0, 1, 0) from rfl] at h1 h2 h3 h4
    simp only [exec]
    split
    · rename_i hr; exact ⟨by (simp only [List.length_append, List.length_cons, List.length_nil, List.length_set, less_length] at *; omega), b2, b3, h.out, by have := h.read0; show 0 ≤ s.read + 1; omega, by show s.read + 1 ≤ s.inp.size; omega, h.status0, h.status1⟩
    · exact right_lists h (by (simp only [List.length_append, List.length_cons, List.length_nil, List.length_set, less_length] at *; omega)) (by (simp only [List.length_append, List.length_cons, List.length_nil, List.length_set, less_length] at *; omega)) (by (simp only [List.length_append, List.length_cons, List.length_nil, List.length_set, less_length] at *; omega))
  | 44, _ =>
    rw [show movesOf 44 = (1, 0, 0, 1) from rfl] at h1 h2 h3 h4
    simp only [exec]
    repeat' split
    all_goals first | exact fault_right h _ | exact right_lists h (by (simp only [List.length_append, List.length_cons, List.length_nil, List.length_set, less_length] at *; omega)) (by (simp only [List.length_append, List.length_cons, List.length_nil, List.length_set, less_length] at *; omega)) (by (simp only [List.length_append, List.length_cons, List.length_nil, List.length_set, less_length] at *; omega))
  | 45, _ =>
    rw [show movesOf 45 = (1, 0, 0, 0) from rfl] at h1 h2 h3 h4
    simp only [exec]
    split
    · exact right_lists h (by (simp only [List.length_append, List.length_cons, List.length_nil, List.length_set, less_length] at *; omega)) (by (simp only [List.length_append, List.length_cons, List.length_nil, List.length_set, less_length] at *; omega)) (by (simp only [List.length_append, List.length_cons, List.length_nil, List.length_set, less_length] at *; omega))
    · exact fault_right (right_lists (ip := s.ip) (handler := s.handler) h (by (simp only [List.length_append, List.length_cons, List.length_nil, List.length_set, less_length] at *; omega)) b2 b3) _
  | 46, _ =>
    rw [show movesOf 46 = (1, 0, 0, 4) from rfl] at h1 h2 h3 h4
    exact right_lists h (by (simp only [List.length_append, List.length_cons, List.length_nil, List.length_set, less_length] at *; omega)) (by (simp only [List.length_append, List.length_cons, List.length_nil, List.length_set, less_length] at *; omega)) (by (simp only [List.length_append, List.length_cons, List.length_nil, List.length_set, less_length] at *; omega))
  | 47, _ =>
    rw [show movesOf 47 = (0, 0, 0, 0) from rfl] at h1 h2 h3 h4
    exact right_lists h (by (simp only [List.length_append, List.length_cons, List.length_nil, List.length_set, less_length] at *; omega)) (by (simp only [List.length_append, List.length_cons, List.length_nil, List.length_set, less_length] at *; omega)) (by (simp only [List.length_append, List.length_cons, List.length_nil, List.length_set, less_length] at *; omega))
  | n + 48, hn => exact absurd hn (by omega)
/-- a step leaves a machine right -/
theorem step_right {s : M} (h : Right s) : Right (step s) := by
  unfold step
  split
  · exact h
  split
  · exact fault_right h _
  dsimp only
  split
  · split
    · exact fault_right h _
    · rename_i hb
      exact right_lists h h.stack (by simp only [List.length_append, List.length_cons, List.length_nil]; omega) h.mem
  split
  · exact fault_right h _
  rename_i hc
  split
  · exact fault_right h _
  split
  · exact fault_right h _
  split
  · exact fault_right h _
  split
  · exact fault_right h _
  split
  · exact fault_right h _
  exact exec_right h _ (by omega) _ _ (by omega) (by omega) (by omega) (by omega)
theorem run_right {s : M} (h : Right s) (n : Nat) : Right (run n s).1 := by
  induction n generalizing s with
  | zero => exact h
  | succ n ih =>
    by_cases h' : s.status = 0
    · rw [show run (n + 1) s = run n (step s) by rw [run, if_pos h']]
      exact ih (step_right h)
    · rw [run_still h']
      exact h
end Go.Proofs.YtgabemlehmhgpaaDoor.Mach
