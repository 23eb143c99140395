
/- A step leaves the numbers of a machine of chapter 9 cells' numbers. -/
import Derived.Test.YtgabemlehmhgpaaDoorMachRight
namespace Go.Proofs.YtgabemlehmhgpaaDoor.Mach
open Go.RowKit (wrap64)
open Go.Proofs.YtgabemlehmhgpaaDoor.Cell (In)
set_option linter.unusedVariables false
set_option linter.unusedSimpArgs false
theorem in0 : In 0 := (by unfold Go.Proofs.YtgabemlehmhgpaaDoor.Cell.In; omega)
theorem ite_in {p : Prop} [Decidable p] {x y : Int × Bool} (h : In x.1) (g : In y.1) : In (if p then x else y).1 := by split <;> assumption
theorem getD_in {l : List Int} (h : ∀ x ∈ l, In x) (k : Nat) : In (l.getD k 0) := by
  rw [List.getD_eq_getElem?_getD]
  cases e : l[k]? with
  | none => exact in0
  | some x => exact h x (List.mem_of_getElem? e)
theorem nth_in {l : List Int} (h : ∀ x ∈ l, In x) (k : Nat) : In (nth l k) := by
  unfold nth
  split
  · exact getD_in h _
  · exact (by unfold Go.Proofs.YtgabemlehmhgpaaDoor.Cell.In; omega)
theorem less_in {l : List Int} (h : ∀ x ∈ l, In x) (a : Nat) : ∀ x ∈ less l a, In x := fun x hx => h x (List.mem_of_mem_take hx)
theorem take_in {l : List Int} (h : ∀ x ∈ l, In x) (a : Nat) : ∀ x ∈ l.take a, In x := fun x hx => h x (List.mem_of_mem_take hx)
theorem in_lay {l m : List Int} (h : ∀ x ∈ l, In x) (g : ∀ x ∈ m, In x) : ∀ x ∈ l ++ m, In x := fun x hx => (List.mem_append.1 hx).elim (h x) (g x)
theorem in_nil : ∀ x ∈ ([] : List Int), In x := fun _ hx => by cases hx
theorem in_cons {a : Int} {l : List Int} (h : In a) (g : ∀ x ∈ l, In x) : ∀ x ∈ a :: l, In x := fun x hx => (List.mem_cons.1 hx).elim (fun e => e ▸ h) (g x)
theorem in_one {a : Int} (h : In a) : ∀ x ∈ [a], In x := in_cons h in_nil
theorem set_in {l : List Int} (h : ∀ x ∈ l, In x) (k : Nat) {a : Int} (g : In a) : ∀ x ∈ l.set k a, In x := fun x hx => (List.mem_or_eq_of_mem_set hx).elim (h x) (fun e => e ▸ g)
theorem deep_in {l : List Int} (h : ∀ x ∈ l, In x) (n : Nat) : ∀ x ∈ deep l n, In x := in_lay (take_in h n) (fun x hx => by rw [(List.mem_replicate.1 hx).2]; exact (by unfold Go.Proofs.YtgabemlehmhgpaaDoor.Cell.In; omega))
theorem byte_in (b : UInt8) : In (b.toNat : Int) := by have := b.toNat_lt; exact (by unfold Go.Proofs.YtgabemlehmhgpaaDoor.Cell.In; omega)
theorem flag_in (b : Bool) : In (Cell.flag b) := by cases b; exact in0; exact (show In (-1) from (by unfold Go.Proofs.YtgabemlehmhgpaaDoor.Cell.In; omega))
theorem one_in (k : Int) {a : Int} (h : In a) : In (Cell.one k a).1 := by
  unfold Cell.one
  repeat' split
  · exact Cell.wrap_in _
  · unfold Cell.In at h ⊢; show -9223372036854775808 ≤ -1 - a ∧ -1 - a ≤ 9223372036854775807; omega
  · exact flag_in _
  · exact flag_in _
  · exact (by unfold Go.Proofs.YtgabemlehmhgpaaDoor.Cell.In; omega)
theorem shl_in (a b : Int) : In (Cell.shl a b) := by unfold Cell.shl; split; exact (by unfold Go.Proofs.YtgabemlehmhgpaaDoor.Cell.In; omega); exact Cell.wrap_in _
theorem shr_in (a b : Int) : In (Cell.shr a b) := by unfold Cell.shr; split; exact (by unfold Go.Proofs.YtgabemlehmhgpaaDoor.Cell.In; omega); exact Cell.wrap_in _
theorem fl_in {a b : Int} (k : Int) (hb : In b) : In (Cell.fl a b k).1 := by
  unfold Cell.fl
  split
  · exact (by unfold Go.Proofs.YtgabemlehmhgpaaDoor.Cell.In; omega)
  · rename_i h0
    show In (if k = 15 then Cell.fr a b else Cell.fq a b)
    split
    · exact Cell.fr_in h0 hb
    · exact Cell.wrap_in _
theorem two_in (k : Int) {a b : Int} (ha : In a) (hb : In b) : In (Cell.two k a b).1 := by
  have m1 : In (min a b) := by unfold Cell.In at ha hb ⊢; omega
  have m2 : In (max a b) := by unfold Cell.In at ha hb ⊢; omega
  exact ite_in (Cell.wrap_in (a + b)) (ite_in (Cell.wrap_in (a - b)) (ite_in (Cell.wrap_in (a * b)) (ite_in (fl_in k hb) (ite_in (Cell.bits_in .and a b) (ite_in (Cell.bits_in .or a b) (ite_in (Cell.bits_in .xor a b) (ite_in (shl_in a b) (ite_in (shr_in a b) (ite_in (flag_in _) (ite_in (flag_in _) (ite_in (flag_in _) (ite_in m1 (ite_in m2 in0)))))))))))))
theorem cells_lists {s : M} (h : Cells s) {ip handler : Int} {st bk mem : List Int} (h1 : In ip) (h2 : In handler) (h3 : ∀ x ∈ st, In x) (h4 : ∀ x ∈ bk, In x) (h5 : ∀ x ∈ mem, In x) : Cells { s with ip := ip, handler := handler, stack := st, back := bk, mem := mem } := ⟨h1, h2, h3, h4, h5, h.code⟩
theorem fault_cells {s : M} (h : Cells s) {c : Int} (hc : In c) : Cells (fault s c) := by
  unfold fault
  split
  · exact ⟨getD_in h.back _, getD_in h.back _, in_lay (deep_in h.stack _) (in_one hc), take_in h.back _, h.mem, h.code⟩
  · exact ⟨h.ip, h.handler, h.stack, h.back, h.mem, hc⟩
/-- a number, a list of numbers -/
theorem exec_cells {s : M} (h : Cells s) (hl : s.stack.length ≤ 48) (hb : s.back.length ≤ 48) (k : Nat) (hk : k < 48) {i g : Int} (hi : In i) (hg : In g) : Cells (exec k s i g) := by
  have b0 := h.ip
  have b1 := h.handler
  have b2 := h.stack
  have b3 := h.back
  have b4 := h.mem
  match k, hk with
  | 0, _ =>
    exact ⟨h.ip, h.handler, h.stack, h.back, h.mem, h.code⟩
  | 1, _ =>
    simp only [exec]
    repeat' split
    all_goals (first | (refine fault_cells h ?_; exact (by unfold Go.Proofs.YtgabemlehmhgpaaDoor.Cell.In; omega)) | (refine cells_lists h ?_ ?_ ?_ ?_ ?_ <;> (repeat' (first | assumption | (refine less_in ?_ _; assumption) | exact in_nil | refine in_lay ?_ ?_ | refine in_cons ?_ ?_ | refine set_in ?_ _ ?_ | (first | assumption | (refine nth_in ?_ _; assumption) | (refine getD_in ?_ _; assumption) | exact Cell.wrap_in _ | (rw [less_length]; exact (by unfold Go.Proofs.YtgabemlehmhgpaaDoor.Cell.In; omega)) | exact (by unfold Go.Proofs.YtgabemlehmhgpaaDoor.Cell.In; omega))))))
  | 2, _ =>
    simp only [exec]
    repeat' split
    all_goals (first | (refine fault_cells h ?_; exact (by unfold Go.Proofs.YtgabemlehmhgpaaDoor.Cell.In; omega)) | (refine cells_lists h ?_ ?_ ?_ ?_ ?_ <;> (repeat' (first | assumption | (refine less_in ?_ _; assumption) | exact in_nil | refine in_lay ?_ ?_ | refine in_cons ?_ ?_ | refine set_in ?_ _ ?_ | (first | assumption | (refine nth_in ?_ _; assumption) | (refine getD_in ?_ _; assumption) | exact Cell.wrap_in _ | (rw [less_length]; exact (by unfold Go.Proofs.YtgabemlehmhgpaaDoor.Cell.In; omega)) | exact (by unfold Go.Proofs.YtgabemlehmhgpaaDoor.Cell.In; omega))))))
  | 3, _ =>
    simp only [exec]
    repeat' split
    all_goals (first | (refine fault_cells h ?_; exact (by unfold Go.Proofs.YtgabemlehmhgpaaDoor.Cell.In; omega)) | (refine cells_lists h ?_ ?_ ?_ ?_ ?_ <;> (repeat' (first | assumption | (refine less_in ?_ _; assumption) | exact in_nil | refine in_lay ?_ ?_ | refine in_cons ?_ ?_ | refine set_in ?_ _ ?_ | (first | assumption | (refine nth_in ?_ _; assumption) | (refine getD_in ?_ _; assumption) | exact Cell.wrap_in _ | (rw [less_length]; exact (by unfold Go.Proofs.YtgabemlehmhgpaaDoor.Cell.In; omega)) | exact (by unfold Go.Proofs.YtgabemlehmhgpaaDoor.Cell.In; omega))))))
  | 4, _ =>
    simp only [exec]
    repeat' split
    all_goals (first | (refine fault_cells h ?_; exact (by unfold Go.Proofs.YtgabemlehmhgpaaDoor.Cell.In; omega)) | (refine cells_lists h ?_ ?_ ?_ ?_ ?_ <;> (repeat' (first | assumption | (refine less_in ?_ _; assumption) | exact in_nil | refine in_lay ?_ ?_ | refine in_cons ?_ ?_ | refine set_in ?_ _ ?_ | (first | assumption | (refine nth_in ?_ _; assumption) | (refine getD_in ?_ _; assumption) | exact Cell.wrap_in _ | (rw [less_length]; exact (by unfold Go.Proofs.YtgabemlehmhgpaaDoor.Cell.In; omega)) | exact (by unfold Go.Proofs.YtgabemlehmhgpaaDoor.Cell.In; omega))))))
  | 5, _ =>
    simp only [exec]
    repeat' split
    all_goals (first | (refine fault_cells h ?_; exact (by unfold Go.Proofs.YtgabemlehmhgpaaDoor.Cell.In; omega)) | (refine cells_lists h ?_ ?_ ?_ ?_ ?_ <;> (repeat' (first | assumption | (refine less_in ?_ _; assumption) | exact in_nil | refine in_lay ?_ ?_ | refine in_cons ?_ ?_ | refine set_in ?_ _ ?_ | (first | assumption | (refine nth_in ?_ _; assumption) | (refine getD_in ?_ _; assumption) | exact Cell.wrap_in _ | (rw [less_length]; exact (by unfold Go.Proofs.YtgabemlehmhgpaaDoor.Cell.In; omega)) | exact (by unfold Go.Proofs.YtgabemlehmhgpaaDoor.Cell.In; omega))))))
  | 6, _ =>
    simp only [exec]
    repeat' split
    all_goals (first | (refine fault_cells h ?_; exact (by unfold Go.Proofs.YtgabemlehmhgpaaDoor.Cell.In; omega)) | (refine cells_lists h ?_ ?_ ?_ ?_ ?_ <;> (repeat' (first | assumption | (refine less_in ?_ _; assumption) | exact in_nil | refine in_lay ?_ ?_ | refine in_cons ?_ ?_ | refine set_in ?_ _ ?_ | (first | assumption | (refine nth_in ?_ _; assumption) | (refine getD_in ?_ _; assumption) | exact Cell.wrap_in _ | (rw [less_length]; exact (by unfold Go.Proofs.YtgabemlehmhgpaaDoor.Cell.In; omega)) | exact (by unfold Go.Proofs.YtgabemlehmhgpaaDoor.Cell.In; omega))))))
  | 7, _ =>
    simp only [exec]
    repeat' split
    all_goals (first | (refine fault_cells h ?_; exact (by unfold Go.Proofs.YtgabemlehmhgpaaDoor.Cell.In; omega)) | (refine cells_lists h ?_ ?_ ?_ ?_ ?_ <;> (repeat' (first | assumption | (refine less_in ?_ _; assumption) | exact in_nil | refine in_lay ?_ ?_ | refine in_cons ?_ ?_ | refine set_in ?_ _ ?_ | (first | assumption | (refine nth_in ?_ _; assumption) | (refine getD_in ?_ _; assumption) | exact Cell.wrap_in _ | (rw [less_length]; exact (by unfold Go.Proofs.YtgabemlehmhgpaaDoor.Cell.In; omega)) | exact (by unfold Go.Proofs.YtgabemlehmhgpaaDoor.Cell.In; omega))))))
  | 8, _ =>
    simp only [exec]
    repeat' split
    all_goals (first | (refine fault_cells h ?_; exact (by unfold Go.Proofs.YtgabemlehmhgpaaDoor.Cell.In; omega)) | (refine cells_lists h ?_ ?_ ?_ ?_ ?_ <;> (repeat' (first | assumption | (refine less_in ?_ _; assumption) | exact in_nil | refine in_lay ?_ ?_ | refine in_cons ?_ ?_ | refine set_in ?_ _ ?_ | (first | assumption | (refine nth_in ?_ _; assumption) | (refine getD_in ?_ _; assumption) | exact Cell.wrap_in _ | (rw [less_length]; exact (by unfold Go.Proofs.YtgabemlehmhgpaaDoor.Cell.In; omega)) | exact (by unfold Go.Proofs.YtgabemlehmhgpaaDoor.Cell.In; omega))))))
  | 9, _ =>
    simp only [exec]
    repeat' split
    all_goals (first | (refine fault_cells h ?_; exact (by unfold Go.Proofs.YtgabemlehmhgpaaDoor.Cell.In; omega)) | (refine cells_lists h ?_ ?_ ?_ ?_ ?_ <;> (repeat' (first | assumption | (refine less_in ?_ _; assumption) | exact in_nil | refine in_lay ?_ ?_ | refine in_cons ?_ ?_ | refine set_in ?_ _ ?_ | (first | assumption | (refine nth_in ?_ _; assumption) | (refine getD_in ?_ _; assumption) | exact Cell.wrap_in _ | (rw [less_length]; exact (by unfold Go.Proofs.YtgabemlehmhgpaaDoor.Cell.In; omega)) | exact (by unfold Go.Proofs.YtgabemlehmhgpaaDoor.Cell.In; omega))))))
  | 10, _ =>
    simp only [exec]
    repeat' split
    all_goals (first | (refine fault_cells h ?_; exact (by unfold Go.Proofs.YtgabemlehmhgpaaDoor.Cell.In; omega)) | (refine cells_lists h ?_ ?_ ?_ ?_ ?_ <;> (repeat' (first | assumption | (refine less_in ?_ _; assumption) | exact in_nil | refine in_lay ?_ ?_ | refine in_cons ?_ ?_ | refine set_in ?_ _ ?_ | (first | assumption | (refine nth_in ?_ _; assumption) | (refine getD_in ?_ _; assumption) | exact Cell.wrap_in _ | (rw [less_length]; exact (by unfold Go.Proofs.YtgabemlehmhgpaaDoor.Cell.In; omega)) | exact (by unfold Go.Proofs.YtgabemlehmhgpaaDoor.Cell.In; omega))))))
  | 11, _ =>
    rw [exec_two s i g (by decide)]
    split
    · exact cells_lists h hi h.handler (in_lay (less_in h.stack _) (in_one (two_in _ (nth_in h.stack 1) (nth_in h.stack 0)))) h.back h.mem
    · exact fault_cells h (by unfold Go.Proofs.YtgabemlehmhgpaaDoor.Cell.In; omega)
  | 12, _ =>
    rw [exec_two s i g (by decide)]
    split
    · exact cells_lists h hi h.handler (in_lay (less_in h.stack _) (in_one (two_in _ (nth_in h.stack 1) (nth_in h.stack 0)))) h.back h.mem
    · exact fault_cells h (by unfold Go.Proofs.YtgabemlehmhgpaaDoor.Cell.In; omega)
  | 13, _ =>
    rw [exec_two s i g (by decide)]
    split
    · exact cells_lists h hi h.handler (in_lay (less_in h.stack _) (in_one (two_in _ (nth_in h.stack 1) (nth_in h.stack 0)))) h.back h.mem
    · exact fault_cells h (by unfold Go.Proofs.YtgabemlehmhgpaaDoor.Cell.In; omega)
  | 14, _ =>
    rw [exec_two s i g (by decide)]
    split
    · exact cells_lists h hi h.handler (in_lay (less_in h.stack _) (in_one (two_in _ (nth_in h.stack 1) (nth_in h.stack 0)))) h.back h.mem
    · exact fault_cells h (by unfold Go.Proofs.YtgabemlehmhgpaaDoor.Cell.In; omega)
  | 15, _ =>
    rw [exec_two s i g (by decide)]
    split
    · exact cells_lists h hi h.handler (in_lay (less_in h.stack _) (in_one (two_in _ (nth_in h.stack 1) (nth_in h.stack 0)))) h.back h.mem
    · exact fault_cells h (by unfold Go.Proofs.YtgabemlehmhgpaaDoor.Cell.In; omega)
  | 16, _ =>
    rw [exec_one s i g (by decide)]
    exact cells_lists h hi h.handler (in_lay (less_in h.stack _) (in_one (one_in _ (nth_in h.stack 0)))) h.back h.mem
  | 17, _ =>
    rw [exec_two s i g (by decide)]
    split
    · exact cells_lists h hi h.handler (in_lay (less_in h.stack _) (in_one (two_in _ (nth_in h.stack 1) (nth_in h.stack 0)))) h.back h.mem
    · exact fault_cells h (by unfold Go.Proofs.YtgabemlehmhgpaaDoor.Cell.In; omega)
  | 18, _ =>
    rw [exec_two s i g (by decide)]
    split
    · exact cells_lists h hi h.handler (in_lay (less_in h.stack _) (in_one (two_in _ (nth_in h.stack 1) (nth_in h.stack 0)))) h.back h.mem
    · exact fault_cells h (by unfold Go.Proofs.YtgabemlehmhgpaaDoor.Cell.In; omega)
  | 19, _ =>
    rw [exec_two s i g (by decide)]
    split
    · exact cells_lists h hi h.handler (in_lay (less_in h.stack _) (in_one (two_in _ (nth_in h.stack 1) (nth_in h.stack 0)))) h.back h.mem
    · exact fault_cells h (by unfold Go.Proofs.YtgabemlehmhgpaaDoor.Cell.In; omega)
  | 20, _ =>
    rw [exec_one s i g (by decide)]
    exact cells_lists h hi h.handler (in_lay (less_in h.stack _) (in_one (one_in _ (nth_in h.stack 0)))) h.back h.mem
  | 21, _ =>
    rw [exec_two s i g (by decide)]
    split
    · exact cells_lists h hi h.handler (in_lay (less_in h.stack _) (in_one (two_in _ (nth_in h.stack 1) (nth_in h.stack 0)))) h.back h.mem
    · exact fault_cells h (by unfold Go.Proofs.YtgabemlehmhgpaaDoor.Cell.In; omega)
  | 22, _ =>
    rw [exec_two s i g (by decide)]
    split
    · exact cells_lists h hi h.handler (in_lay (less_in h.stack _) (in_one (two_in _ (nth_in h.stack 1) (nth_in h.stack 0)))) h.back h.mem
    · exact fault_cells h (by unfold Go.Proofs.YtgabemlehmhgpaaDoor.Cell.In; omega)
  | 23, _ =>
    rw [exec_two s i g (by decide)]
    split
    · exact cells_lists h hi h.handler (in_lay (less_in h.stack _) (in_one (two_in _ (nth_in h.stack 1) (nth_in h.stack 0)))) h.back h.mem
    · exact fault_cells h (by unfold Go.Proofs.YtgabemlehmhgpaaDoor.Cell.In; omega)
  | 24, _ =>
    rw [exec_two s i g (by decide)]
    split
    · exact cells_lists h hi h.handler (in_lay (less_in h.stack _) (in_one (two_in _ (nth_in h.stack 1) (nth_in h.stack 0)))) h.back h.mem
    · exact fault_cells h (by unfold Go.Proofs.YtgabemlehmhgpaaDoor.Cell.In; omega)
  | 25, _ =>
    rw [exec_two s i g (by decide)]
    split
    · exact cells_lists h hi h.handler (in_lay (less_in h.stack _) (in_one (two_in _ (nth_in h.stack 1) (nth_in h.stack 0)))) h.back h.mem
    · exact fault_cells h (by unfold Go.Proofs.YtgabemlehmhgpaaDoor.Cell.In; omega)
  | 26, _ =>
    rw [exec_one s i g (by decide)]
    exact cells_lists h hi h.handler (in_lay (less_in h.stack _) (in_one (one_in _ (nth_in h.stack 0)))) h.back h.mem
  | 27, _ =>
    rw [exec_one s i g (by decide)]
    exact cells_lists h hi h.handler (in_lay (less_in h.stack _) (in_one (one_in _ (nth_in h.stack 0)))) h.back h.mem
  | 28, _ =>
    rw [exec_two s i g (by decide)]
    split
    · exact cells_lists h hi h.handler (in_lay (less_in h.stack _) (in_one (two_in _ (nth_in h.stack 1) (nth_in h.stack 0)))) h.back h.mem
    · exact fault_cells h (by unfold Go.Proofs.YtgabemlehmhgpaaDoor.Cell.In; omega)
  | 29, _ =>
    rw [exec_two s i g (by decide)]
    split
    · exact cells_lists h hi h.handler (in_lay (less_in h.stack _) (in_one (two_in _ (nth_in h.stack 1) (nth_in h.stack 0)))) h.back h.mem
    · exact fault_cells h (by unfold Go.Proofs.YtgabemlehmhgpaaDoor.Cell.In; omega)
  | 30, _ =>
    simp only [exec]
    repeat' split
    all_goals (first | (refine fault_cells h ?_; exact (by unfold Go.Proofs.YtgabemlehmhgpaaDoor.Cell.In; omega)) | (refine cells_lists h ?_ ?_ ?_ ?_ ?_ <;> (repeat' (first | assumption | (refine less_in ?_ _; assumption) | exact in_nil | refine in_lay ?_ ?_ | refine in_cons ?_ ?_ | refine set_in ?_ _ ?_ | (first | assumption | (refine nth_in ?_ _; assumption) | (refine getD_in ?_ _; assumption) | exact Cell.wrap_in _ | (rw [less_length]; exact (by unfold Go.Proofs.YtgabemlehmhgpaaDoor.Cell.In; omega)) | exact (by unfold Go.Proofs.YtgabemlehmhgpaaDoor.Cell.In; omega))))))
  | 31, _ =>
    simp only [exec]
    repeat' split
    all_goals (first | (refine fault_cells h ?_; exact (by unfold Go.Proofs.YtgabemlehmhgpaaDoor.Cell.In; omega)) | (refine cells_lists h ?_ ?_ ?_ ?_ ?_ <;> (repeat' (first | assumption | (refine less_in ?_ _; assumption) | exact in_nil | refine in_lay ?_ ?_ | refine in_cons ?_ ?_ | refine set_in ?_ _ ?_ | (first | assumption | (refine nth_in ?_ _; assumption) | (refine getD_in ?_ _; assumption) | exact Cell.wrap_in _ | (rw [less_length]; exact (by unfold Go.Proofs.YtgabemlehmhgpaaDoor.Cell.In; omega)) | exact (by unfold Go.Proofs.YtgabemlehmhgpaaDoor.Cell.In; omega))))))
  | 32, _ =>
    simp only [exec]
    repeat' split
    all_goals (first | (refine fault_cells h ?_; exact (by unfold Go.Proofs.YtgabemlehmhgpaaDoor.Cell.In; omega)) | (refine cells_lists h ?_ ?_ ?_ ?_ ?_ <;> (repeat' (first | assumption | (refine less_in ?_ _; assumption) | exact in_nil | refine in_lay ?_ ?_ | refine in_cons ?_ ?_ | refine set_in ?_ _ ?_ | (first | assumption | (refine nth_in ?_ _; assumption) | (refine getD_in ?_ _; assumption) | exact Cell.wrap_in _ | (rw [less_length]; exact (by unfold Go.Proofs.YtgabemlehmhgpaaDoor.Cell.In; omega)) | exact (by unfold Go.Proofs.YtgabemlehmhgpaaDoor.Cell.In; omega))))))
  | 33, _ =>
    simp only [exec]
    repeat' split
    all_goals (first | (refine fault_cells h ?_; exact (by unfold Go.Proofs.YtgabemlehmhgpaaDoor.Cell.In; omega)) | (refine cells_lists h ?_ ?_ ?_ ?_ ?_ <;> (repeat' (first | assumption | (refine less_in ?_ _; assumption) | exact in_nil | refine in_lay ?_ ?_ | refine in_cons ?_ ?_ | refine set_in ?_ _ ?_ | (first | assumption | (refine nth_in ?_ _; assumption) | (refine getD_in ?_ _; assumption) | exact Cell.wrap_in _ | (rw [less_length]; exact (by unfold Go.Proofs.YtgabemlehmhgpaaDoor.Cell.In; omega)) | exact (by unfold Go.Proofs.YtgabemlehmhgpaaDoor.Cell.In; omega))))))
  | 34, _ =>
    simp only [exec]
    repeat' split
    all_goals (first | (refine fault_cells h ?_; exact (by unfold Go.Proofs.YtgabemlehmhgpaaDoor.Cell.In; omega)) | (refine cells_lists h ?_ ?_ ?_ ?_ ?_ <;> (repeat' (first | assumption | (refine less_in ?_ _; assumption) | exact in_nil | refine in_lay ?_ ?_ | refine in_cons ?_ ?_ | refine set_in ?_ _ ?_ | (first | assumption | (refine nth_in ?_ _; assumption) | (refine getD_in ?_ _; assumption) | exact Cell.wrap_in _ | (rw [less_length]; exact (by unfold Go.Proofs.YtgabemlehmhgpaaDoor.Cell.In; omega)) | exact (by unfold Go.Proofs.YtgabemlehmhgpaaDoor.Cell.In; omega))))))
  | 35, _ =>
    simp only [exec]
    repeat' split
    all_goals (first | (refine fault_cells h ?_; exact (by unfold Go.Proofs.YtgabemlehmhgpaaDoor.Cell.In; omega)) | (refine cells_lists h ?_ ?_ ?_ ?_ ?_ <;> (repeat' (first | assumption | (refine less_in ?_ _; assumption) | exact in_nil | refine in_lay ?_ ?_ | refine in_cons ?_ ?_ | refine set_in ?_ _ ?_ | (first | assumption | (refine nth_in ?_ _; assumption) | (refine getD_in ?_ _; assumption) | exact Cell.wrap_in _ | (rw [less_length]; exact (by unfold Go.Proofs.YtgabemlehmhgpaaDoor.Cell.In; omega)) | exact (by unfold Go.Proofs.YtgabemlehmhgpaaDoor.Cell.In; omega))))))
  | 36, _ =>
    simp only [exec]
    repeat' split
    all_goals (first | (refine fault_cells h ?_; exact (by unfold Go.Proofs.YtgabemlehmhgpaaDoor.Cell.In; omega)) | (refine cells_lists h ?_ ?_ ?_ ?_ ?_ <;> (repeat' (first | assumption | (refine less_in ?_ _; assumption) | exact in_nil | refine in_lay ?_ ?_ | refine in_cons ?_ ?_ | refine set_in ?_ _ ?_ | (first | assumption | (refine nth_in ?_ _; assumption) | (refine getD_in ?_ _; assumption) | exact Cell.wrap_in _ | (rw [less_length]; exact (by unfold Go.Proofs.YtgabemlehmhgpaaDoor.Cell.In; omega)) | exact (by unfold Go.Proofs.YtgabemlehmhgpaaDoor.Cell.In; omega))))))
  | 37, _ =>
    simp only [exec]
    repeat' split
    all_goals (first | (refine fault_cells h ?_; exact (by unfold Go.Proofs.YtgabemlehmhgpaaDoor.Cell.In; omega)) | (refine cells_lists h ?_ ?_ ?_ ?_ ?_ <;> (repeat' (first | assumption | (refine less_in ?_ _; assumption) | exact in_nil | refine in_lay ?_ ?_ | refine in_cons ?_ ?_ | refine set_in ?_ _ ?_ | (first | assumption | (refine nth_in ?_ _; assumption) | (refine getD_in ?_ _; assumption) | exact Cell.wrap_in _ | (rw [less_length]; exact (by unfold Go.Proofs.YtgabemlehmhgpaaDoor.Cell.In; omega)) | exact (by unfold Go.Proofs.YtgabemlehmhgpaaDoor.Cell.In; omega))))))
  | 38, _ =>
    simp only [exec]
    repeat' split
    all_goals (first | (refine fault_cells h ?_; exact (by unfold Go.Proofs.YtgabemlehmhgpaaDoor.Cell.In; omega)) | (refine cells_lists h ?_ ?_ ?_ ?_ ?_ <;> (repeat' (first | assumption | (refine less_in ?_ _; assumption) | exact in_nil | refine in_lay ?_ ?_ | refine in_cons ?_ ?_ | refine set_in ?_ _ ?_ | (first | assumption | (refine nth_in ?_ _; assumption) | (refine getD_in ?_ _; assumption) | exact Cell.wrap_in _ | (rw [less_length]; exact (by unfold Go.Proofs.YtgabemlehmhgpaaDoor.Cell.In; omega)) | exact (by unfold Go.Proofs.YtgabemlehmhgpaaDoor.Cell.In; omega))))))
  | 39, _ =>
    simp only [exec]
    repeat' split
    all_goals (first | (refine fault_cells h ?_; exact (by unfold Go.Proofs.YtgabemlehmhgpaaDoor.Cell.In; omega)) | (refine cells_lists h ?_ ?_ ?_ ?_ ?_ <;> (repeat' (first | assumption | (refine less_in ?_ _; assumption) | exact in_nil | refine in_lay ?_ ?_ | refine in_cons ?_ ?_ | refine set_in ?_ _ ?_ | (first | assumption | (refine nth_in ?_ _; assumption) | (refine getD_in ?_ _; assumption) | exact Cell.wrap_in _ | (rw [less_length]; exact (by unfold Go.Proofs.YtgabemlehmhgpaaDoor.Cell.In; omega)) | exact (by unfold Go.Proofs.YtgabemlehmhgpaaDoor.Cell.In; omega))))))
  | 40, _ =>
    simp only [exec]
    repeat' split
    all_goals (first | (refine fault_cells h ?_; exact (by unfold Go.Proofs.YtgabemlehmhgpaaDoor.Cell.In; omega)) | (refine cells_lists h ?_ ?_ ?_ ?_ ?_ <;> (repeat' (first | assumption | (refine less_in ?_ _; assumption) | exact in_nil | refine in_lay ?_ ?_ | refine in_cons ?_ ?_ | refine set_in ?_ _ ?_ | (first | assumption | (refine nth_in ?_ _; assumption) | (refine getD_in ?_ _; assumption) | exact Cell.wrap_in _ | (rw [less_length]; exact (by unfold Go.Proofs.YtgabemlehmhgpaaDoor.Cell.In; omega)) | exact (by unfold Go.Proofs.YtgabemlehmhgpaaDoor.Cell.In; omega))))))
  | 41, _ =>
    simp only [exec]
    split
    · exact fault_cells h (by unfold Go.Proofs.YtgabemlehmhgpaaDoor.Cell.In; omega)
    · exact ⟨hi, h.handler, less_in h.stack _, h.back, h.mem, h.code⟩
  | 42, _ =>
    simp only [exec]
    split
    · exact fault_cells h (by unfold Go.Proofs.YtgabemlehmhgpaaDoor.Cell.In; omega)
    · exact ⟨hi, h.handler, less_in h.stack _, h.back, h.mem, h.code⟩
  | 43, _ =>
    simp only [exec]
    split
    · exact ⟨hi, h.handler, in_lay h.stack (in_one (byte_in _)), h.back, h.mem, h.code⟩
    · (first | (refine fault_cells h ?_; exact (by unfold Go.Proofs.YtgabemlehmhgpaaDoor.Cell.In; omega)) | (refine cells_lists h ?_ ?_ ?_ ?_ ?_ <;> (repeat' (first | assumption | (refine less_in ?_ _; assumption) | exact in_nil | refine in_lay ?_ ?_ | refine in_cons ?_ ?_ | refine set_in ?_ _ ?_ | (first | assumption | (refine nth_in ?_ _; assumption) | (refine getD_in ?_ _; assumption) | exact Cell.wrap_in _ | (rw [less_length]; exact (by unfold Go.Proofs.YtgabemlehmhgpaaDoor.Cell.In; omega)) | exact (by unfold Go.Proofs.YtgabemlehmhgpaaDoor.Cell.In; omega))))))
  | 44, _ =>
    simp only [exec]
    repeat' split
    all_goals (first | (refine fault_cells h ?_; exact (by unfold Go.Proofs.YtgabemlehmhgpaaDoor.Cell.In; omega)) | (refine cells_lists h ?_ ?_ ?_ ?_ ?_ <;> (repeat' (first | assumption | (refine less_in ?_ _; assumption) | exact in_nil | refine in_lay ?_ ?_ | refine in_cons ?_ ?_ | refine set_in ?_ _ ?_ | (first | assumption | (refine nth_in ?_ _; assumption) | (refine getD_in ?_ _; assumption) | exact Cell.wrap_in _ | (rw [less_length]; exact (by unfold Go.Proofs.YtgabemlehmhgpaaDoor.Cell.In; omega)) | exact (by unfold Go.Proofs.YtgabemlehmhgpaaDoor.Cell.In; omega))))))
  | 45, _ =>
    simp only [exec]
    split
    · (first | (refine fault_cells h ?_; exact (by unfold Go.Proofs.YtgabemlehmhgpaaDoor.Cell.In; omega)) | (refine cells_lists h ?_ ?_ ?_ ?_ ?_ <;> (repeat' (first | assumption | (refine less_in ?_ _; assumption) | exact in_nil | refine in_lay ?_ ?_ | refine in_cons ?_ ?_ | refine set_in ?_ _ ?_ | (first | assumption | (refine nth_in ?_ _; assumption) | (refine getD_in ?_ _; assumption) | exact Cell.wrap_in _ | (rw [less_length]; exact (by unfold Go.Proofs.YtgabemlehmhgpaaDoor.Cell.In; omega)) | exact (by unfold Go.Proofs.YtgabemlehmhgpaaDoor.Cell.In; omega))))))
    · exact fault_cells (cells_lists (ip := s.ip) (handler := s.handler) h h.ip h.handler (less_in h.stack _) h.back h.mem) (nth_in h.stack 0)
  | 46, _ =>
    simp only [exec]
    repeat' split
    all_goals (first | (refine fault_cells h ?_; exact (by unfold Go.Proofs.YtgabemlehmhgpaaDoor.Cell.In; omega)) | (refine cells_lists h ?_ ?_ ?_ ?_ ?_ <;> (repeat' (first | assumption | (refine less_in ?_ _; assumption) | exact in_nil | refine in_lay ?_ ?_ | refine in_cons ?_ ?_ | refine set_in ?_ _ ?_ | (first | assumption | (refine nth_in ?_ _; assumption) | (refine getD_in ?_ _; assumption) | exact Cell.wrap_in _ | (rw [less_length]; exact (by unfold Go.Proofs.YtgabemlehmhgpaaDoor.Cell.In; omega)) | exact (by unfold Go.Proofs.YtgabemlehmhgpaaDoor.Cell.In; omega))))))
  | 47, _ =>
    simp only [exec]
    repeat' split
    all_goals (first | (refine fault_cells h ?_; exact (by unfold Go.Proofs.YtgabemlehmhgpaaDoor.Cell.In; omega)) | (refine cells_lists h ?_ ?_ ?_ ?_ ?_ <;> (repeat' (first | assumption | (refine less_in ?_ _; assumption) | exact in_nil | refine in_lay ?_ ?_ | refine in_cons ?_ ?_ | refine set_in ?_ _ ?_ | (first | assumption | (refine nth_in ?_ _; assumption) | (refine getD_in ?_ _; assumption) | exact Cell.wrap_in _ | (rw [less_length]; exact (by unfold Go.Proofs.YtgabemlehmhgpaaDoor.Cell.In; omega)) | exact (by unfold Go.Proofs.YtgabemlehmhgpaaDoor.Cell.In; omega))))))
  | n + 48, hn => exact absurd hn (by omega)
/-- a step leaves them cells' numbers -/
theorem step_cells {s : M} (r : Right s) (h : Cells s) : Cells (step s) := by
  have rm := r.mem
  have rb := r.back
  have rs := r.stack
  unfold step
  split
  · exact h
  split
  · exact fault_cells h (by unfold Go.Proofs.YtgabemlehmhgpaaDoor.Cell.In; omega)
  rename_i hip
  dsimp only
  split
  · split
    · exact fault_cells h (by unfold Go.Proofs.YtgabemlehmhgpaaDoor.Cell.In; omega)
    · exact cells_lists h (getD_in h.mem _) h.handler h.stack (in_lay h.back (in_one (Cell.wrap_in _))) h.mem
  split
  · exact fault_cells h (by unfold Go.Proofs.YtgabemlehmhgpaaDoor.Cell.In; omega)
  split
  · exact fault_cells h (by unfold Go.Proofs.YtgabemlehmhgpaaDoor.Cell.In; omega)
  split
  · exact fault_cells h (by unfold Go.Proofs.YtgabemlehmhgpaaDoor.Cell.In; omega)
  split
  · exact fault_cells h (by unfold Go.Proofs.YtgabemlehmhgpaaDoor.Cell.In; omega)
  split
  · exact fault_cells h (by unfold Go.Proofs.YtgabemlehmhgpaaDoor.Cell.In; omega)
  split
  · exact fault_cells h (by unfold Go.Proofs.YtgabemlehmhgpaaDoor.Cell.In; omega)
  exact exec_cells h rs rb _ (by omega) (by split <;> exact (by unfold Go.Proofs.YtgabemlehmhgpaaDoor.Cell.In; omega)) (getD_in h.mem _)
theorem run_cells {s : M} (r : Right s) (h : Cells s) (n : Nat) : Cells (run n s).1 := by
  induction n generalizing s with
  | zero => exact h
  | succ n ih =>
    by_cases h' : s.status = 0
    · rw [show run (n + 1) s = run n (step s) by rw [run, if_pos h']]
      exact ih (step_right r) (step_cells r h)
    · rw [run_still h']
      exact h
end Go.Proofs.YtgabemlehmhgpaaDoor.Mach
