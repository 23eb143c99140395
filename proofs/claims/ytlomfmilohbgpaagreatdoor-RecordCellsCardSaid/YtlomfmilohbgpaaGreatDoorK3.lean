/- A step leaves the numbers of a machine of chapter 9 cells' numbers. -/
import Derived.Test.YtlomfmilohbgpaaGreatDoorK2
import Derived.Test.YtlomfmilohbgpaaGreatDoorK1
import Derived.Test.YtlomfmilohbgpaaGreatDoorInnTurn
import Derived.Test.YtlomfmilohbgpaaGreatDoorInnMove
import Derived.Test.YtlomfmilohbgpaaGreatDoorOpSpec
import Derived.LaidLaws
import Derived.LaidHandle
import Derived.Lib.LaidTab
import Derived.ChangeVars
import Derived.ChangeArms
import Derived.Stop.Joined
import Derived.Test.YtlomfmilohbgpaaGreatDoorOpFromStack
import Derived.Test.YtlomfmilohbgpaaGreatDoorOpToStack
import Derived.Deep.LoopGhost
import Derived.Deep.QuietTactic
import Derived.BigQuiet
namespace Go.Proofs.YtlomfmilohbgpaaGreatDoor.Mach
open Go.RowKit (wrap64)
open Go.Proofs.YtlomfmilohbgpaaGreatDoor.Cell (In)
set_option linter.unusedVariables false
set_option linter.unusedSimpArgs false
theorem in0 : In 0 := (by unfold Go.Proofs.YtlomfmilohbgpaaGreatDoor.Cell.In; omega)
theorem ite_in {p : Prop} [Decidable p] {x y : Int × Bool} (h : In x.1) (g : In y.1) : In (if p then x else y).1 := by split <;> assumption
theorem getD_in {l : List Int} (h : ∀ x ∈ l, In x) (k : Nat) : In (l.getD k 0) := by
  rw [List.getD_eq_getElem?_getD]
  cases e : l[k]? with
  | none => exact in0
  | some x => exact h x (List.mem_of_getElem? e)
theorem nth_in {l : List Int} (h : ∀ x ∈ l, In x) (k : Nat) : In (nth l k) := by
  unfold nth
  split
  · exact getD_in h _
  · exact (by unfold Go.Proofs.YtlomfmilohbgpaaGreatDoor.Cell.In; omega)
theorem less_in {l : List Int} (h : ∀ x ∈ l, In x) (a : Nat) : ∀ x ∈ less l a, In x := fun x hx => h x (List.mem_of_mem_take hx)
theorem take_in {l : List Int} (h : ∀ x ∈ l, In x) (a : Nat) : ∀ x ∈ l.take a, In x := fun x hx => h x (List.mem_of_mem_take hx)
theorem in_lay {l m : List Int} (h : ∀ x ∈ l, In x) (g : ∀ x ∈ m, In x) : ∀ x ∈ l ++ m, In x := fun x hx => (List.mem_append.1 hx).elim (h x) (g x)
theorem in_nil : ∀ x ∈ ([] : List Int), In x := fun _ hx => by cases hx
theorem in_cons {a : Int} {l : List Int} (h : In a) (g : ∀ x ∈ l, In x) : ∀ x ∈ a :: l, In x := fun x hx => (List.mem_cons.1 hx).elim (fun e => e ▸ h) (g x)
theorem in_one {a : Int} (h : In a) : ∀ x ∈ [a], In x := in_cons h in_nil
theorem set_in {l : List Int} (h : ∀ x ∈ l, In x) (k : Nat) {a : Int} (g : In a) : ∀ x ∈ l.set k a, In x := fun x hx => (List.mem_or_eq_of_mem_set hx).elim (h x) (fun e => e ▸ g)
theorem deep_in {l : List Int} (h : ∀ x ∈ l, In x) (n : Nat) : ∀ x ∈ deep l n, In x := in_lay (take_in h n) (fun x hx => by rw [(List.mem_replicate.1 hx).2]; exact (by unfold Go.Proofs.YtlomfmilohbgpaaGreatDoor.Cell.In; omega))
theorem byte_in (b : UInt8) : In (b.toNat : Int) := by have := b.toNat_lt; exact (by unfold Go.Proofs.YtlomfmilohbgpaaGreatDoor.Cell.In; omega)
theorem flag_in (b : Bool) : In (Cell.flag b) := by cases b; exact in0; exact (show In (-1) from (by unfold Go.Proofs.YtlomfmilohbgpaaGreatDoor.Cell.In; omega))
theorem one_in (k : Int) {a : Int} (h : In a) : In (Cell.one k a).1 := by
  unfold Cell.one
  repeat' split
  · exact Cell.wrap_in _
  · unfold Cell.In at h ⊢; show -9223372036854775808 ≤ -1 - a ∧ -1 - a ≤ 9223372036854775807; omega
  · exact flag_in _
  · exact flag_in _
  · exact (by unfold Go.Proofs.YtlomfmilohbgpaaGreatDoor.Cell.In; omega)
theorem shl_in (a b : Int) : In (Cell.shl a b) := by unfold Cell.shl; split; exact (by unfold Go.Proofs.YtlomfmilohbgpaaGreatDoor.Cell.In; omega); exact Cell.wrap_in _
theorem shr_in (a b : Int) : In (Cell.shr a b) := by unfold Cell.shr; split; exact (by unfold Go.Proofs.YtlomfmilohbgpaaGreatDoor.Cell.In; omega); exact Cell.wrap_in _
theorem fl_in {a b : Int} (k : Int) (hb : In b) : In (Cell.fl a b k).1 := by
  unfold Cell.fl
  split
  · exact (by unfold Go.Proofs.YtlomfmilohbgpaaGreatDoor.Cell.In; omega)
  · rename_i h0
    show In (if k = 15 then Cell.fr a b else Cell.fq a b)
    split
    · exact Cell.fr_in h0 hb
    · exact Cell.wrap_in _
theorem two_in (k : Int) {a b : Int} (ha : In a) (hb : In b) : In (Cell.two k a b).1 := by
  have m1 : In (min a b) := by unfold Cell.In at ha hb ⊢; omega
  have m2 : In (max a b) := by unfold Cell.In at ha hb ⊢; omega
  exact ite_in (Cell.wrap_in (a + b)) (ite_in (Cell.wrap_in (a - b)) (ite_in (Cell.wrap_in (a * b)) (ite_in (fl_in k hb) (ite_in (Cell.bits_in .and a b) (ite_in (Cell.bits_in .or a b) (ite_in (Cell.bits_in .xor a b) (ite_in (shl_in a b) (ite_in (shr_in a b) (ite_in (flag_in _) (ite_in (flag_in _) (ite_in (flag_in _) (ite_in m1 (ite_in m2 in0)))))))))))))
theorem cells_lists {s : M} (h : Cells s) {ip handler : Int} {st bk mem : List Int} (h1 : In ip) (h2 : In handler) (h3 : ∀ x ∈ st, In x) (h4 : ∀ x ∈ bk, In x) (h5 : ∀ x ∈ mem, In x) : Cells { s with ip := ip, handler := handler, stack := st, back := bk, mem := mem } := ⟨h1, h2, h3, h4, h5, h.code⟩
theorem fault_cells {s : M} (h : Cells s) {c : Int} (hc : In c) : Cells (fault s c) := by
  unfold fault
  split
  · exact ⟨getD_in h.back _, getD_in h.back _, in_lay (deep_in h.stack _) (in_one hc), take_in h.back _, h.mem, h.code⟩
  · exact ⟨h.ip, h.handler, h.stack, h.back, h.mem, hc⟩
/-- a number, a list of numbers -/
theorem exec_cells {s : M} (h : Cells s) (hl : s.stack.length ≤ 48) (hb : s.back.length ≤ 48) (k : Nat) (hk : k < 48) {i g : Int} (hi : In i) (hg : In g) : Cells (exec k s i g) := by
  have b0 := h.ip
  have b1 := h.handler
  have b2 := h.stack
  have b3 := h.back
  have b4 := h.mem
  match k, hk with
  | 0, _ =>
    exact ⟨h.ip, h.handler, h.stack, h.back, h.mem, h.code⟩
  | 1, _ =>
    simp only [exec]
    repeat' split
    all_goals (first | (refine fault_cells h ?_; exact (by unfold Go.Proofs.YtlomfmilohbgpaaGreatDoor.Cell.In; omega)) | (refine cells_lists h ?_ ?_ ?_ ?_ ?_ <;> (repeat' (first | assumption | (refine less_in ?_ _; assumption) | exact in_nil | refine in_lay ?_ ?_ | refine in_cons ?_ ?_ | refine set_in ?_ _ ?_ | (first | assumption | (refine nth_in ?_ _; assumption) | (refine getD_in ?_ _; assumption) | exact Cell.wrap_in _ | (rw [less_length]; exact (by unfold Go.Proofs.YtlomfmilohbgpaaGreatDoor.Cell.In; omega)) | exact (by unfold Go.Proofs.YtlomfmilohbgpaaGreatDoor.Cell.In; omega))))))
  | 2, _ =>
    simp only [exec]
    repeat' split
    all_goals (first | (refine fault_cells h ?_; exact (by unfold Go.Proofs.YtlomfmilohbgpaaGreatDoor.Cell.In; omega)) | (refine cells_lists h ?_ ?_ ?_ ?_ ?_ <;> (repeat' (first | assumption | (refine less_in ?_ _; assumption) | exact in_nil | refine in_lay ?_ ?_ | refine in_cons ?_ ?_ | refine set_in ?_ _ ?_ | (first | assumption | (refine nth_in ?_ _; assumption) | (refine getD_in ?_ _; assumption) | exact Cell.wrap_in _ | (rw [less_length]; exact (by unfold Go.Proofs.YtlomfmilohbgpaaGreatDoor.Cell.In; omega)) | exact (by unfold Go.Proofs.YtlomfmilohbgpaaGreatDoor.Cell.In; omega))))))
  | 3, _ =>
    simp only [exec]
    repeat' split
    all_goals (first | (refine fault_cells h ?_; exact (by unfold Go.Proofs.YtlomfmilohbgpaaGreatDoor.Cell.In; omega)) | (refine cells_lists h ?_ ?_ ?_ ?_ ?_ <;> (repeat' (first | assumption | (refine less_in ?_ _; assumption) | exact in_nil | refine in_lay ?_ ?_ | refine in_cons ?_ ?_ | refine set_in ?_ _ ?_ | (first | assumption | (refine nth_in ?_ _; assumption) | (refine getD_in ?_ _; assumption) | exact Cell.wrap_in _ | (rw [less_length]; exact (by unfold Go.Proofs.YtlomfmilohbgpaaGreatDoor.Cell.In; omega)) | exact (by unfold Go.Proofs.YtlomfmilohbgpaaGreatDoor.Cell.In; omega))))))
  | 4, _ =>
    simp only [exec]
    repeat' split
    all_goals (first | (refine fault_cells h ?_; exact (by unfold Go.Proofs.YtlomfmilohbgpaaGreatDoor.Cell.In; omega)) | (refine cells_lists h ?_ ?_ ?_ ?_ ?_ <;> (repeat' (first | assumption | (refine less_in ?_ _; assumption) | exact in_nil | refine in_lay ?_ ?_ | refine in_cons ?_ ?_ | refine set_in ?_ _ ?_ | (first | assumption | (refine nth_in ?_ _; assumption) | (refine getD_in ?_ _; assumption) | exact Cell.wrap_in _ | (rw [less_length]; exact (by unfold Go.Proofs.YtlomfmilohbgpaaGreatDoor.Cell.In; omega)) | exact (by unfold Go.Proofs.YtlomfmilohbgpaaGreatDoor.Cell.In; omega))))))
  | 5, _ =>
    simp only [exec]
    repeat' split
    all_goals (first | (refine fault_cells h ?_; exact (by unfold Go.Proofs.YtlomfmilohbgpaaGreatDoor.Cell.In; omega)) | (refine cells_lists h ?_ ?_ ?_ ?_ ?_ <;> (repeat' (first | assumption | (refine less_in ?_ _; assumption) | exact in_nil | refine in_lay ?_ ?_ | refine in_cons ?_ ?_ | refine set_in ?_ _ ?_ | (first | assumption | (refine nth_in ?_ _; assumption) | (refine getD_in ?_ _; assumption) | exact Cell.wrap_in _ | (rw [less_length]; exact (by unfold Go.Proofs.YtlomfmilohbgpaaGreatDoor.Cell.In; omega)) | exact (by unfold Go.Proofs.YtlomfmilohbgpaaGreatDoor.Cell.In; omega))))))
  | 6, _ =>
    simp only [exec]
    repeat' split
    all_goals (first | (refine fault_cells h ?_; exact (by unfold Go.Proofs.YtlomfmilohbgpaaGreatDoor.Cell.In; omega)) | (refine cells_lists h ?_ ?_ ?_ ?_ ?_ <;> (repeat' (first | assumption | (refine less_in ?_ _; assumption) | exact in_nil | refine in_lay ?_ ?_ | refine in_cons ?_ ?_ | refine set_in ?_ _ ?_ | (first | assumption | (refine nth_in ?_ _; assumption) | (refine getD_in ?_ _; assumption) | exact Cell.wrap_in _ | (rw [less_length]; exact (by unfold Go.Proofs.YtlomfmilohbgpaaGreatDoor.Cell.In; omega)) | exact (by unfold Go.Proofs.YtlomfmilohbgpaaGreatDoor.Cell.In; omega))))))
  | 7, _ =>
    simp only [exec]
    repeat' split
    all_goals (first | (refine fault_cells h ?_; exact (by unfold Go.Proofs.YtlomfmilohbgpaaGreatDoor.Cell.In; omega)) | (refine cells_lists h ?_ ?_ ?_ ?_ ?_ <;> (repeat' (first | assumption | (refine less_in ?_ _; assumption) | exact in_nil | refine in_lay ?_ ?_ | refine in_cons ?_ ?_ | refine set_in ?_ _ ?_ | (first | assumption | (refine nth_in ?_ _; assumption) | (refine getD_in ?_ _; assumption) | exact Cell.wrap_in _ | (rw [less_length]; exact (by unfold Go.Proofs.YtlomfmilohbgpaaGreatDoor.Cell.In; omega)) | exact (by unfold Go.Proofs.YtlomfmilohbgpaaGreatDoor.Cell.In; omega))))))
  | 8, _ =>
    simp only [exec]
    repeat' split
    all_goals (first | (refine fault_cells h ?_; exact (by unfold Go.Proofs.YtlomfmilohbgpaaGreatDoor.Cell.In; omega)) | (refine cells_lists h ?_ ?_ ?_ ?_ ?_ <;> (repeat' (first | assumption | (refine less_in ?_ _; assumption) | exact in_nil | refine in_lay ?_ ?_ | refine in_cons ?_ ?_ | refine set_in ?_ _ ?_ | (first | assumption | (refine nth_in ?_ _; assumption) | (refine getD_in ?_ _; assumption) | exact Cell.wrap_in _ | (rw [less_length]; exact (by unfold Go.Proofs.YtlomfmilohbgpaaGreatDoor.Cell.In; omega)) | exact (by unfold Go.Proofs.YtlomfmilohbgpaaGreatDoor.Cell.In; omega))))))
  | 9, _ =>
    simp only [exec]
    repeat' split
    all_goals (first | (refine fault_cells h ?_; exact (by unfold Go.Proofs.YtlomfmilohbgpaaGreatDoor.Cell.In; omega)) | (refine cells_lists h ?_ ?_ ?_ ?_ ?_ <;> (repeat' (first | assumption | (refine less_in ?_ _; assumption) | exact in_nil | refine in_lay ?_ ?_ | refine in_cons ?_ ?_ | refine set_in ?_ _ ?_ | (first | assumption | (refine nth_in ?_ _; assumption) | (refine getD_in ?_ _; assumption) | exact Cell.wrap_in _ | (rw [less_length]; exact (by unfold Go.Proofs.YtlomfmilohbgpaaGreatDoor.Cell.In; omega)) | exact (by unfold Go.Proofs.YtlomfmilohbgpaaGreatDoor.Cell.In; omega))))))
  | 10, _ =>
    simp only [exec]
    repeat' split
    all_goals (first | (refine fault_cells h ?_; exact (by unfold Go.Proofs.YtlomfmilohbgpaaGreatDoor.Cell.In; omega)) | (refine cells_lists h ?_ ?_ ?_ ?_ ?_ <;> (repeat' (first | assumption | (refine less_in ?_ _; assumption) | exact in_nil | refine in_lay ?_ ?_ | refine in_cons ?_ ?_ | refine set_in ?_ _ ?_ | (first | assumption | (refine nth_in ?_ _; assumption) | (refine getD_in ?_ _; assumption) | exact Cell.wrap_in _ | (rw [less_length]; exact (by unfold Go.Proofs.YtlomfmilohbgpaaGreatDoor.Cell.In; omega)) | exact (by unfold Go.Proofs.YtlomfmilohbgpaaGreatDoor.Cell.In; omega))))))
  | 11, _ =>
    rw [exec_two s i g (by decide)]
    split
    · exact cells_lists h hi h.handler (in_lay (less_in h.stack _) (in_one (two_in _ (nth_in h.stack 1) (nth_in h.stack 0)))) h.back h.mem
    · exact fault_cells h (by unfold Go.Proofs.YtlomfmilohbgpaaGreatDoor.Cell.In; omega)
  | 12, _ =>
    rw [exec_two s i g (by decide)]
    split
    · exact cells_lists h hi h.handler (in_lay (less_in h.stack _) (in_one (two_in _ (nth_in h.stack 1) (nth_in h.stack 0)))) h.back h.mem
    · exact fault_cells h (by unfold Go.Proofs.YtlomfmilohbgpaaGreatDoor.Cell.In; omega)
  | 13, _ =>
    rw [exec_two s i g (by decide)]
    split
    · exact cells_lists h hi h.handler (in_lay (less_in h.stack _) (in_one (two_in _ (nth_in h.stack 1) (nth_in h.stack 0)))) h.back h.mem
    · exact fault_cells h (by unfold Go.Proofs.YtlomfmilohbgpaaGreatDoor.Cell.In; omega)
  | 14, _ =>
    rw [exec_two s i g (by decide)]
    split
    · exact cells_lists h hi h.handler (in_lay (less_in h.stack _) (in_one (two_in _ (nth_in h.stack 1) (nth_in h.stack 0)))) h.back h.mem
    · exact fault_cells h (by unfold Go.Proofs.YtlomfmilohbgpaaGreatDoor.Cell.In; omega)
  | 15, _ =>
    rw [exec_two s i g (by decide)]
    split
    · exact cells_lists h hi h.handler (in_lay (less_in h.stack _) (in_one (two_in _ (nth_in h.stack 1) (nth_in h.stack 0)))) h.back h.mem
    · exact fault_cells h (by unfold Go.Proofs.YtlomfmilohbgpaaGreatDoor.Cell.In; omega)
  | 16, _ =>
    rw [exec_one s i g (by decide)]
    exact cells_lists h hi h.handler (in_lay (less_in h.stack _) (in_one (one_in _ (nth_in h.stack 0)))) h.back h.mem
  | 17, _ =>
    rw [exec_two s i g (by decide)]
    split
    · exact cells_lists h hi h.handler (in_lay (less_in h.stack _) (in_one (two_in _ (nth_in h.stack 1) (nth_in h.stack 0)))) h.back h.mem
    · exact fault_cells h (by unfold Go.Proofs.YtlomfmilohbgpaaGreatDoor.Cell.In; omega)
  | 18, _ =>
    rw [exec_two s i g (by decide)]
    split
    · exact cells_lists h hi h.handler (in_lay (less_in h.stack _) (in_one (two_in _ (nth_in h.stack 1) (nth_in h.stack 0)))) h.back h.mem
    · exact fault_cells h (by unfold Go.Proofs.YtlomfmilohbgpaaGreatDoor.Cell.In; omega)
  | 19, _ =>
    rw [exec_two s i g (by decide)]
    split
    · exact cells_lists h hi h.handler (in_lay (less_in h.stack _) (in_one (two_in _ (nth_in h.stack 1) (nth_in h.stack 0)))) h.back h.mem
    · exact fault_cells h (by unfold Go.Proofs.YtlomfmilohbgpaaGreatDoor.Cell.In; omega)
  | 20, _ =>
    rw [exec_one s i g (by decide)]
    exact cells_lists h hi h.handler (in_lay (less_in h.stack _) (in_one (one_in _ (nth_in h.stack 0)))) h.back h.mem
  | 21, _ =>
    rw [exec_two s i g (by decide)]
    split
    · exact cells_lists h hi h.handler (in_lay (less_in h.stack _) (in_one (two_in _ (nth_in h.stack 1) (nth_in h.stack 0)))) h.back h.mem
    · exact fault_cells h (by unfold Go.Proofs.YtlomfmilohbgpaaGreatDoor.Cell.In; omega)
  | 22, _ =>
    rw [exec_two s i g (by decide)]
    split
    · exact cells_lists h hi h.handler (in_lay (less_in h.stack _) (in_one (two_in _ (nth_in h.stack 1) (nth_in h.stack 0)))) h.back h.mem
    · exact fault_cells h (by unfold Go.Proofs.YtlomfmilohbgpaaGreatDoor.Cell.In; omega)
  | 23, _ =>
    rw [exec_two s i g (by decide)]
    split
    · exact cells_lists h hi h.handler (in_lay (less_in h.stack _) (in_one (two_in _ (nth_in h.stack 1) (nth_in h.stack 0)))) h.back h.mem
    · exact fault_cells h (by unfold Go.Proofs.YtlomfmilohbgpaaGreatDoor.Cell.In; omega)
  | 24, _ =>
    rw [exec_two s i g (by decide)]
    split
    · exact cells_lists h hi h.handler (in_lay (less_in h.stack _) (in_one (two_in _ (nth_in h.stack 1) (nth_in h.stack 0)))) h.back h.mem
    · exact fault_cells h (by unfold Go.Proofs.YtlomfmilohbgpaaGreatDoor.Cell.In; omega)
  | 25, _ =>
    rw [exec_two s i g (by decide)]
    split
    · exact cells_lists h hi h.handler (in_lay (less_in h.stack _) (in_one (two_in _ (nth_in h.stack 1) (nth_in h.stack 0)))) h.back h.mem
    · exact fault_cells h (by unfold Go.Proofs.YtlomfmilohbgpaaGreatDoor.Cell.In; omega)
  | 26, _ =>
    rw [exec_one s i g (by decide)]
    exact cells_lists h hi h.handler (in_lay (less_in h.stack _) (in_one (one_in _ (nth_in h.stack 0)))) h.back h.mem
  | 27, _ =>
    rw [exec_one s i g (by decide)]
    exact cells_lists h hi h.handler (in_lay (less_in h.stack _) (in_one (one_in _ (nth_in h.stack 0)))) h.back h.mem
  | 28, _ =>
    rw [exec_two s i g (by decide)]
    split
    · exact cells_lists h hi h.handler (in_lay (less_in h.stack _) (in_one (two_in _ (nth_in h.stack 1) (nth_in h.stack 0)))) h.back h.mem
    · exact fault_cells h (by unfold Go.Proofs.YtlomfmilohbgpaaGreatDoor.Cell.In; omega)
  | 29, _ =>
    rw [exec_two s i g (by decide)]
    split
    · exact cells_lists h hi h.handler (in_lay (less_in h.stack _) (in_one (two_in _ (nth_in h.stack 1) (nth_in h.stack 0)))) h.back h.mem
    · exact fault_cells h (by unfold Go.Proofs.YtlomfmilohbgpaaGreatDoor.Cell.In; omega)
  | 30, _ =>
    simp only [exec]
    repeat' split
    all_goals (first | (refine fault_cells h ?_; exact (by unfold Go.Proofs.YtlomfmilohbgpaaGreatDoor.Cell.In; omega)) | (refine cells_lists h ?_ ?_ ?_ ?_ ?_ <;> (repeat' (first | assumption | (refine less_in ?_ _; assumption) | exact in_nil | refine in_lay ?_ ?_ | refine in_cons ?_ ?_ | refine set_in ?_ _ ?_ | (first | assumption | (refine nth_in ?_ _; assumption) | (refine getD_in ?_ _; assumption) | exact Cell.wrap_in _ | (rw [less_length]; exact (by unfold Go.Proofs.YtlomfmilohbgpaaGreatDoor.Cell.In; omega)) | exact (by unfold Go.Proofs.YtlomfmilohbgpaaGreatDoor.Cell.In; omega))))))
  | 31, _ =>
    simp only [exec]
    repeat' split
    all_goals (first | (refine fault_cells h ?_; exact (by unfold Go.Proofs.YtlomfmilohbgpaaGreatDoor.Cell.In; omega)) | (refine cells_lists h ?_ ?_ ?_ ?_ ?_ <;> (repeat' (first | assumption | (refine less_in ?_ _; assumption) | exact in_nil | refine in_lay ?_ ?_ | refine in_cons ?_ ?_ | refine set_in ?_ _ ?_ | (first | assumption | (refine nth_in ?_ _; assumption) | (refine getD_in ?_ _; assumption) | exact Cell.wrap_in _ | (rw [less_length]; exact (by unfold Go.Proofs.YtlomfmilohbgpaaGreatDoor.Cell.In; omega)) | exact (by unfold Go.Proofs.YtlomfmilohbgpaaGreatDoor.Cell.In; omega))))))
  | 32, _ =>
    simp only [exec]
    repeat' split
    all_goals (first | (refine fault_cells h ?_; exact (by unfold Go.Proofs.YtlomfmilohbgpaaGreatDoor.Cell.In; omega)) | (refine cells_lists h ?_ ?_ ?_ ?_ ?_ <;> (repeat' (first | assumption | (refine less_in ?_ _; assumption) | exact in_nil | refine in_lay ?_ ?_ | refine in_cons ?_ ?_ | refine set_in ?_ _ ?_ | (first | assumption | (refine nth_in ?_ _; assumption) | (refine getD_in ?_ _; assumption) | exact Cell.wrap_in _ | (rw [less_length]; exact (by unfold Go.Proofs.YtlomfmilohbgpaaGreatDoor.Cell.In; omega)) | exact (by unfold Go.Proofs.YtlomfmilohbgpaaGreatDoor.Cell.In; omega))))))
  | 33, _ =>
    simp only [exec]
    repeat' split
    all_goals (first | (refine fault_cells h ?_; exact (by unfold Go.Proofs.YtlomfmilohbgpaaGreatDoor.Cell.In; omega)) | (refine cells_lists h ?_ ?_ ?_ ?_ ?_ <;> (repeat' (first | assumption | (refine less_in ?_ _; assumption) | exact in_nil | refine in_lay ?_ ?_ | refine in_cons ?_ ?_ | refine set_in ?_ _ ?_ | (first | assumption | (refine nth_in ?_ _; assumption) | (refine getD_in ?_ _; assumption) | exact Cell.wrap_in _ | (rw [less_length]; exact (by unfold Go.Proofs.YtlomfmilohbgpaaGreatDoor.Cell.In; omega)) | exact (by unfold Go.Proofs.YtlomfmilohbgpaaGreatDoor.Cell.In; omega))))))
  | 34, _ =>
    simp only [exec]
    repeat' split
    all_goals (first | (refine fault_cells h ?_; exact (by unfold Go.Proofs.YtlomfmilohbgpaaGreatDoor.Cell.In; omega)) | (refine cells_lists h ?_ ?_ ?_ ?_ ?_ <;> (repeat' (first | assumption | (refine less_in ?_ _; assumption) | exact in_nil | refine in_lay ?_ ?_ | refine in_cons ?_ ?_ | refine set_in ?_ _ ?_ | (first | assumption | (refine nth_in ?_ _; assumption) | (refine getD_in ?_ _; assumption) | exact Cell.wrap_in _ | (rw [less_length]; exact (by unfold Go.Proofs.YtlomfmilohbgpaaGreatDoor.Cell.In; omega)) | exact (by unfold Go.Proofs.YtlomfmilohbgpaaGreatDoor.Cell.In; omega))))))
  | 35, _ =>
    simp only [exec]
    repeat' split
    all_goals (first | (refine fault_cells h ?_; exact (by unfold Go.Proofs.YtlomfmilohbgpaaGreatDoor.Cell.In; omega)) | (refine cells_lists h ?_ ?_ ?_ ?_ ?_ <;> (repeat' (first | assumption | (refine less_in ?_ _; assumption) | exact in_nil | refine in_lay ?_ ?_ | refine in_cons ?_ ?_ | refine set_in ?_ _ ?_ | (first | assumption | (refine nth_in ?_ _; assumption) | (refine getD_in ?_ _; assumption) | exact Cell.wrap_in _ | (rw [less_length]; exact (by unfold Go.Proofs.YtlomfmilohbgpaaGreatDoor.Cell.In; omega)) | exact (by unfold Go.Proofs.YtlomfmilohbgpaaGreatDoor.Cell.In; omega))))))
  | 36, _ =>
    simp only [exec]
    repeat' split
    all_goals (first | (refine fault_cells h ?_; exact (by unfold Go.Proofs.YtlomfmilohbgpaaGreatDoor.Cell.In; omega)) | (refine cells_lists h ?_ ?_ ?_ ?_ ?_ <;> (repeat' (first | assumption | (refine less_in ?_ _; assumption) | exact in_nil | refine in_lay ?_ ?_ | refine in_cons ?_ ?_ | refine set_in ?_ _ ?_ | (first | assumption | (refine nth_in ?_ _; assumption) | (refine getD_in ?_ _; assumption) | exact Cell.wrap_in _ | (rw [less_length]; exact (by unfold Go.Proofs.YtlomfmilohbgpaaGreatDoor.Cell.In; omega)) | exact (by unfold Go.Proofs.YtlomfmilohbgpaaGreatDoor.Cell.In; omega))))))
  | 37, _ =>
    simp only [exec]
    repeat' split
    all_goals (first | (refine fault_cells h ?_; exact (by unfold Go.Proofs.YtlomfmilohbgpaaGreatDoor.Cell.In; omega)) | (refine cells_lists h ?_ ?_ ?_ ?_ ?_ <;> (repeat' (first | assumption | (refine less_in ?_ _; assumption) | exact in_nil | refine in_lay ?_ ?_ | refine in_cons ?_ ?_ | refine set_in ?_ _ ?_ | (first | assumption | (refine nth_in ?_ _; assumption) | (refine getD_in ?_ _; assumption) | exact Cell.wrap_in _ | (rw [less_length]; exact (by unfold Go.Proofs.YtlomfmilohbgpaaGreatDoor.Cell.In; omega)) | exact (by unfold Go.Proofs.YtlomfmilohbgpaaGreatDoor.Cell.In; omega))))))
  | 38, _ =>
    simp only [exec]
    repeat' split
    all_goals (first | (refine fault_cells h ?_; exact (by unfold Go.Proofs.YtlomfmilohbgpaaGreatDoor.Cell.In; omega)) | (refine cells_lists h ?_ ?_ ?_ ?_ ?_ <;> (repeat' (first | assumption | (refine less_in ?_ _; assumption) | exact in_nil | refine in_lay ?_ ?_ | refine in_cons ?_ ?_ | refine set_in ?_ _ ?_ | (first | assumption | (refine nth_in ?_ _; assumption) | (refine getD_in ?_ _; assumption) | exact Cell.wrap_in _ | (rw [less_length]; exact (by unfold Go.Proofs.YtlomfmilohbgpaaGreatDoor.Cell.In; omega)) | exact (by unfold Go.Proofs.YtlomfmilohbgpaaGreatDoor.Cell.In; omega))))))
  | 39, _ =>
    simp only [exec]
    repeat' split
    all_goals (first | (refine fault_cells h ?_; exact (by unfold Go.Proofs.YtlomfmilohbgpaaGreatDoor.Cell.In; omega)) | (refine cells_lists h ?_ ?_ ?_ ?_ ?_ <;> (repeat' (first | assumption | (refine less_in ?_ _; assumption) | exact in_nil | refine in_lay ?_ ?_ | refine in_cons ?_ ?_ | refine set_in ?_ _ ?_ | (first | assumption | (refine nth_in ?_ _; assumption) | (refine getD_in ?_ _; assumption) | exact Cell.wrap_in _ | (rw [less_length]; exact (by unfold Go.Proofs.YtlomfmilohbgpaaGreatDoor.Cell.In; omega)) | exact (by unfold Go.Proofs.YtlomfmilohbgpaaGreatDoor.Cell.In; omega))))))
  | 40, _ =>
    simp only [exec]
    repeat' split
    all_goals (first | (refine fault_cells h ?_; exact (by unfold Go.Proofs.YtlomfmilohbgpaaGreatDoor.Cell.In; omega)) | (refine cells_lists h ?_ ?_ ?_ ?_ ?_ <;> (repeat' (first | assumption | (refine less_in ?_ _; assumption) | exact in_nil | refine in_lay ?_ ?_ | refine in_cons ?_ ?_ | refine set_in ?_ _ ?_ | (first | assumption | (refine nth_in ?_ _; assumption) | (refine getD_in ?_ _; assumption) | exact Cell.wrap_in _ | (rw [less_length]; exact (by unfold Go.Proofs.YtlomfmilohbgpaaGreatDoor.Cell.In; omega)) | exact (by unfold Go.Proofs.YtlomfmilohbgpaaGreatDoor.Cell.In; omega))))))
  | 41, _ =>
    simp only [exec]
    split
    · exact fault_cells h (by unfold Go.Proofs.YtlomfmilohbgpaaGreatDoor.Cell.In; omega)
    · exact ⟨hi, h.handler, less_in h.stack _, h.back, h.mem, h.code⟩
  | 42, _ =>
    simp only [exec]
    split
    · exact fault_cells h (by unfold Go.Proofs.YtlomfmilohbgpaaGreatDoor.Cell.In; omega)
    · exact ⟨hi, h.handler, less_in h.stack _, h.back, h.mem, h.code⟩
  | 43, _ =>
    simp only [exec]
    split
    · exact ⟨hi, h.handler, in_lay h.stack (in_one (byte_in _)), h.back, h.mem, h.code⟩
    · (first | (refine fault_cells h ?_; exact (by unfold Go.Proofs.YtlomfmilohbgpaaGreatDoor.Cell.In; omega)) | (refine cells_lists h ?_ ?_ ?_ ?_ ?_ <;> (repeat' (first | assumption | (refine less_in ?_ _; assumption) | exact in_nil | refine in_lay ?_ ?_ | refine in_cons ?_ ?_ | refine set_in ?_ _ ?_ | (first | assumption | (refine nth_in ?_ _; assumption) | (refine getD_in ?_ _; assumption) | exact Cell.wrap_in _ | (rw [less_length]; exact (by unfold Go.Proofs.YtlomfmilohbgpaaGreatDoor.Cell.In; omega)) | exact (by unfold Go.Proofs.YtlomfmilohbgpaaGreatDoor.Cell.In; omega))))))
  | 44, _ =>
    simp only [exec]
    repeat' split
    all_goals (first | (refine fault_cells h ?_; exact (by unfold Go.Proofs.YtlomfmilohbgpaaGreatDoor.Cell.In; omega)) | (refine cells_lists h ?_ ?_ ?_ ?_ ?_ <;> (repeat' (first | assumption | (refine less_in ?_ _; assumption) | exact in_nil | refine in_lay ?_ ?_ | refine in_cons ?_ ?_ | refine set_in ?_ _ ?_ | (first | assumption | (refine nth_in ?_ _; assumption) | (refine getD_in ?_ _; assumption) | exact Cell.wrap_in _ | (rw [less_length]; exact (by unfold Go.Proofs.YtlomfmilohbgpaaGreatDoor.Cell.In; omega)) | exact (by unfold Go.Proofs.YtlomfmilohbgpaaGreatDoor.Cell.In; omega))))))
  | 45, _ =>
    simp only [exec]
    split
    · (first | (refine fault_cells h ?_; exact (by unfold Go.Proofs.YtlomfmilohbgpaaGreatDoor.Cell.In; omega)) | (refine cells_lists h ?_ ?_ ?_ ?_ ?_ <;> (repeat' (first | assumption | (refine less_in ?_ _; assumption) | exact in_nil | refine in_lay ?_ ?_ | refine in_cons ?_ ?_ | refine set_in ?_ _ ?_ | (first | assumption | (refine nth_in ?_ _; assumption) | (refine getD_in ?_ _; assumption) | exact Cell.wrap_in _ | (rw [less_length]; exact (by unfold Go.Proofs.YtlomfmilohbgpaaGreatDoor.Cell.In; omega)) | exact (by unfold Go.Proofs.YtlomfmilohbgpaaGreatDoor.Cell.In; omega))))))
    · exact fault_cells (cells_lists (ip := s.ip) (handler := s.handler) h h.ip h.handler (less_in h.stack _) h.back h.mem) (nth_in h.stack 0)
  | 46, _ =>
    simp only [exec]
    repeat' split
    all_goals (first | (refine fault_cells h ?_; exact (by unfold Go.Proofs.YtlomfmilohbgpaaGreatDoor.Cell.In; omega)) | (refine cells_lists h ?_ ?_ ?_ ?_ ?_ <;> (repeat' (first | assumption | (refine less_in ?_ _; assumption) | exact in_nil | refine in_lay ?_ ?_ | refine in_cons ?_ ?_ | refine set_in ?_ _ ?_ | (first | assumption | (refine nth_in ?_ _; assumption) | (refine getD_in ?_ _; assumption) | exact Cell.wrap_in _ | (rw [less_length]; exact (by unfold Go.Proofs.YtlomfmilohbgpaaGreatDoor.Cell.In; omega)) | exact (by unfold Go.Proofs.YtlomfmilohbgpaaGreatDoor.Cell.In; omega))))))
  | 47, _ =>
    simp only [exec]
    repeat' split
    all_goals (first | (refine fault_cells h ?_; exact (by unfold Go.Proofs.YtlomfmilohbgpaaGreatDoor.Cell.In; omega)) | (refine cells_lists h ?_ ?_ ?_ ?_ ?_ <;> (repeat' (first | assumption | (refine less_in ?_ _; assumption) | exact in_nil | refine in_lay ?_ ?_ | refine in_cons ?_ ?_ | refine set_in ?_ _ ?_ | (first | assumption | (refine nth_in ?_ _; assumption) | (refine getD_in ?_ _; assumption) | exact Cell.wrap_in _ | (rw [less_length]; exact (by unfold Go.Proofs.YtlomfmilohbgpaaGreatDoor.Cell.In; omega)) | exact (by unfold Go.Proofs.YtlomfmilohbgpaaGreatDoor.Cell.In; omega))))))
  | n + 48, hn => exact absurd hn (by omega)
/-- a step leaves them cells' numbers -/
theorem step_cells {s : M} (r : Right s) (h : Cells s) : Cells (step s) := by
  have rm := r.mem
  have rb := r.back
  have rs := r.stack
  unfold step
  split
  · exact h
  split
  · exact fault_cells h (by unfold Go.Proofs.YtlomfmilohbgpaaGreatDoor.Cell.In; omega)
  rename_i hip
  dsimp only
  split
  · split
    · exact fault_cells h (by unfold Go.Proofs.YtlomfmilohbgpaaGreatDoor.Cell.In; omega)
    · exact cells_lists h (getD_in h.mem _) h.handler h.stack (in_lay h.back (in_one (Cell.wrap_in _))) h.mem
  split
  · exact fault_cells h (by unfold Go.Proofs.YtlomfmilohbgpaaGreatDoor.Cell.In; omega)
  split
  · exact fault_cells h (by unfold Go.Proofs.YtlomfmilohbgpaaGreatDoor.Cell.In; omega)
  split
  · exact fault_cells h (by unfold Go.Proofs.YtlomfmilohbgpaaGreatDoor.Cell.In; omega)
  split
  · exact fault_cells h (by unfold Go.Proofs.YtlomfmilohbgpaaGreatDoor.Cell.In; omega)
  split
  · exact fault_cells h (by unfold Go.Proofs.YtlomfmilohbgpaaGreatDoor.Cell.In; omega)
  split
  · exact fault_cells h (by unfold Go.Proofs.YtlomfmilohbgpaaGreatDoor.Cell.In; omega)
  exact exec_cells h rs rb _ (by omega) (by split <;> exact (by unfold Go.Proofs.YtlomfmilohbgpaaGreatDoor.Cell.In; omega)) (getD_in h.mem _)
theorem run_cells {s : M} (r : Right s) (h : Cells s) (n : Nat) : Cells (run n s).1 := by
  induction n generalizing s with
  | zero => exact h
  | succ n ih =>
    by_cases h' : s.status = 0
    · rw [show run (n + 1) s = run n (step s) by rw [run, if_pos h']]
      exact ih (step_right r) (step_cells r h)
    · rw [run_still h']
      exact h
end Go.Proofs.YtlomfmilohbgpaaGreatDoor.Mach
/- Package inner: each operation, as the document has it. -/
namespace Go.Proofs.YtlomfmilohbgpaaGreatDoor.Inn
open Go.RowKit Book Mem Mach
set_option linter.unusedVariables false
set_option linter.unusedSimpArgs false
theorem less_zero (l : List Int) : less l 0 = l := by unfold less; rw [Nat.sub_zero, List.take_length]
theorem less_one {l : List Int} (h : 1 ≤ l.length) : less l 1 ++ [nth l 0] = l := by
  have h1 := nth_drop (n := 1) (k := 0) h (by decide)
  unfold less
  rw [show [nth l 0] = l.drop (l.length - 1) from ?_, List.take_append_drop]
  have hl : (l.drop (l.length - 1)).length = 1 := by rw [List.length_drop]; omega
  match hd : l.drop (l.length - 1), hl with
  | [z], _ => rw [hd] at h1; simp at h1; rw [h1]
theorem nth_less {l : List Int} {a k : Nat} (h : a + k < l.length) : nth (less l a) k = nth l (a + k) := by
  unfold nth
  have hl := less_length l a
  rw [if_pos (by omega), if_pos h, hl, List.getD_eq_getElem?_getD, List.getD_eq_getElem?_getD]
  unfold less
  rw [List.getElem?_take, if_pos (by omega), show l.length - a - 1 - k = l.length - 1 - (a + k) by omega]
theorem less_less {l : List Int} {a b : Nat} (h : a + b ≤ l.length) : less (less l a) b = less l (a + b) := by
  unfold less
  rw [List.take_take, List.length_take]
  congr 1
  omega
theorem less_two {l : List Int} (h : 2 ≤ l.length) : less l 2 ++ [nth l 1, nth l 0] = l := by
  have h1 := less_one (l := less l 1) (by rw [less_length]; omega)
  rw [nth_less (by omega), less_less (by omega)] at h1
  have h2 := less_one (l := l) (by omega)
  rw [← h1, List.append_assoc] at h2
  exact h2
theorem less_two' {l : List Int} (h : 2 ≤ l.length) (v : Int) : less l 2 ++ [nth l 1, v] = less l 1 ++ [v] := by
  have h1 := less_one (l := less l 1) (by rw [less_length]; omega)
  rw [nth_less (by omega), less_less (by omega)] at h1
  rw [← h1, List.append_assoc]
  rfl
theorem less_three {l : List Int} (h : 3 ≤ l.length) : less l 3 ++ [nth l 2, nth l 1, nth l 0] = l := by
  have h1 := less_one (l := less l 2) (by rw [less_length]; omega)
  rw [nth_less (by omega), less_less (by omega)] at h1
  have h2 := less_two (l := l) (by omega)
  rw [← h1, List.append_assoc] at h2
  exact h2
theorem drop_one {l : List Int} (h : 1 ≤ l.length) : l.drop (l.length - 1) = [nth l 0] := by
  have h1 := less_one h
  unfold less at h1
  have h2 := List.take_append_drop (l.length - 1) l
  exact List.append_cancel_left (h2.trans h1.symm)
theorem drop_two {l : List Int} (h : 2 ≤ l.length) : l.drop (l.length - 2) = [nth l 1, nth l 0] := by
  have h1 := less_two h
  unfold less at h1
  have h2 := List.take_append_drop (l.length - 2) l
  exact List.append_cancel_left (h2.trans h1.symm)
theorem drop_three {l : List Int} (h : 3 ≤ l.length) : l.drop (l.length - 3) = [nth l 2, nth l 1, nth l 0] := by
  have h1 := less_three h
  unfold less at h1
  have h2 := List.take_append_drop (l.length - 3) l
  exact List.append_cancel_left (h2.trans h1.symm)
theorem nth_in {l : List Int} (h : ∀ x ∈ l, Cell.In x) {k : Nat} (hk : k < l.length) : Cell.In (nth l k) := by
  unfold nth
  have h1 : l.length - 1 - k < l.length := by omega
  rw [if_pos hk, List.getD_eq_getElem?_getD, List.getElem?_eq_getElem h1]
  exact h _ (List.getElem_mem h1)
/-- an operation was done, or told a fault: behind it, all taken and given, the machine is mE -/
def Doing (w : World) (B q : Nat) (F : List Nat) (xb : Nat) (k g at' : Int) (vt vb : Value) (a b : Nat) (mE : M) (e : Ending) (w' : World) : Prop :=
  (∃ m1 gs gbl nx, DoOk w B q F xb k g at' vt vb m1 gs gbl nx .nilIface e w' ∧ a ≤ m1.stack.length ∧ m1.stack.length - a + gs.length ≤ 48 ∧ b ≤ m1.back.length ∧ m1.back.length - b + gbl.length ≤ 48 ∧ mE = { m1 with ip := nx, stack := less m1.stack a ++ gs, back := less m1.back b ++ gbl }) ∨
  ∃ m1 c, DoErr w B q F xb m1 c at' e w' ∧ (c == 0) = false ∧ Cell.In m1.handler ∧ mE = Mach.fault m1 c
theorem XDid.said {w : World} {xb : Nat} {k g at' : Int} {vt vb : Value} {gt gb : Nat} {err : Value} {gs gbl : List Int} {nx' : Int} {e : Ending} {w' : World} (h : XDid w xb k g at' vt vb gt gb err gs gbl nx' e w') : e = .returned err := by
  obtain ⟨_, _, _, h, _⟩ := h
  exact h
theorem XDid.swap {w : World} {xb : Nat} {k g at' : Int} {vt vb : Value} {gt gb : Nat} {err err' : Value} {gs gbl : List Int} {nx' : Int} {e : Ending} {w' : World} (h : XDid w xb k g at' vt vb gt gb err gs gbl nx' e w') : XDid w xb k g at' vt vb gt gb err' gs gbl nx' (.returned err') w' := by
  obtain ⟨a, b, c, h, r⟩ := h
  exact ⟨a, b, c, rfl, r⟩
theorem DoOk.said {w : World} {B q : Nat} {F : List Nat} {xb : Nat} {k g at' : Int} {vt vb : Value} {m1 : M} {gs gbl : List Int} {nx' : Int} {err : Value} {e : Ending} {w' : World} (h : DoOk w B q F xb k g at' vt vb m1 gs gbl nx' err e w') : e = .returned err := by
  obtain ⟨_, _, _, _, h, _⟩ := h
  exact h
theorem DoOk.swap {w : World} {B q : Nat} {F : List Nat} {xb : Nat} {k g at' : Int} {vt vb : Value} {m1 : M} {gs gbl : List Int} {nx' : Int} {err err' : Value} {e : Ending} {w' : World} (h : DoOk w B q F xb k g at' vt vb m1 gs gbl nx' err e w') : DoOk w B q F xb k g at' vt vb m1 gs gbl nx' err' (.returned err') w' := by
  obtain ⟨a, b, c, d, h, r⟩ := h
  exact ⟨a, b, c, d, rfl, r⟩
theorem DoErr.said {w : World} {B q : Nat} {F : List Nat} {xb : Nat} {m1 : M} {c at' : Int} {e : Ending} {w' : World} (h : DoErr w B q F xb m1 c at' e w') : e = .returned (faultV c at') := by
  obtain ⟨_, h, _⟩ := h
  exact h
theorem doing_ok {w : World} {B q : Nat} {F : List Nat} {xb : Nat} {k g at' : Int} {vt vb : Value} {a b : Nat} {m1 mE : M} {gs gbl : List Int} {nx : Int} {e : Ending} {w' : World} (h : DoOk w B q F xb k g at' vt vb m1 gs gbl nx .nilIface e w') (h1 : a ≤ m1.stack.length) (h2 : m1.stack.length - a + gs.length ≤ 48) (h3 : b ≤ m1.back.length) (h4 : m1.back.length - b + gbl.length ≤ 48)
    (h5 : mE = { m1 with ip := nx, stack := less m1.stack a ++ gs, back := less m1.back b ++ gbl }) : ∃ v, e = .returned v ∧ (v = .nilIface ∨ ∃ c a, v = faultV c a) ∧ Doing w B q F xb k g at' vt vb a b mE (.returned v) w' := by
  have := h.said
  subst this
  exact ⟨_, rfl, .inl rfl, .inl ⟨m1, gs, gbl, nx, h, h1, h2, h3, h4, h5⟩⟩
theorem doing_err {w : World} {B q : Nat} {F : List Nat} {xb : Nat} {k g at' : Int} {vt vb : Value} {a b : Nat} {m1 mE : M} {c : Int} {e : Ending} {w' : World} (h : DoErr w B q F xb m1 c at' e w') (h1 : (c == 0) = false) (h2 : Cell.In m1.handler) (h3 : mE = Mach.fault m1 c) :
    ∃ v, e = .returned v ∧ (v = .nilIface ∨ ∃ c a, v = faultV c a) ∧ Doing w B q F xb k g at' vt vb a b mE (.returned v) w' := by
  have := h.said
  subst this
  exact ⟨_, rfl, .inr ⟨_, _, rfl⟩, .inr ⟨m1, c, h, h1, h2, h3⟩⟩
section
variable {w : World} {B q ps gs pb gb pf : Nat} {vC vH : Value} {ch : List Int} {vs vb vm : Value} {m : M} {xb : Nat} {g nx : Int} {gt gk : Nat}
theorem done_0 (h : Pre w B q ps gs pb gb pf vC vH ch vs vb vm m xb 0 g m.ip nx gt gk [] []) (hB : B ≤ w.heap.size) (hr : Right m) (hc : Cells m) (r1 : 0 ≤ m.stack.length) (r2 : 0 ≤ m.back.length) (r3 : m.stack.length - 0 + 0 ≤ 48) (r4 : m.back.length - 0 + 0 ≤ 48)  :
    Calls Tryz.prog 78 #[.pointer (some ⟨q, 0, none⟩), .pointer (some ⟨xb, 0, none⟩)] w (Doing w B q (feet q ps gs pb gb pf vC vH) xb 0 g m.ip (rowV gt 0) (rowV gk 0) 0 0 (exec 0 m nx g)) := by
  exact do_ctl (.inl rfl) h.x.cells.1 (Lib.hid ((ctl_halt h hB).mono fun e w' hx => doing_ok (hx) (by (try simp only [less_length, List.length_cons, List.length_nil]); omega) (by (try simp only [less_length, List.length_cons, List.length_nil]); omega) (by (try simp only [less_length, List.length_cons, List.length_nil]); omega) (by (try simp only [less_length, List.length_cons, List.length_nil]); omega) (by simp only [less_zero, List.append_nil]; rfl)))
theorem done_1 (h : Pre w B q ps gs pb gb pf vC vH ch vs vb vm m xb 1 g m.ip nx gt gk [] []) (hB : B ≤ w.heap.size) (hr : Right m) (hc : Cells m) (r1 : 0 ≤ m.stack.length) (r2 : 0 ≤ m.back.length) (r3 : m.stack.length - 0 + 0 ≤ 48) (r4 : m.back.length - 0 + 0 ≤ 48)  :
    Calls Tryz.prog 78 #[.pointer (some ⟨q, 0, none⟩), .pointer (some ⟨xb, 0, none⟩)] w (Doing w B q (feet q ps gs pb gb pf vC vH) xb 1 g m.ip (rowV gt 0) (rowV gk 0) 0 0 (exec 1 m nx g)) := by
  by_cases c1 : m.handler < 3
  · exact do_ctl (.inr (.inr (.inr (.inr rfl)))) h.x.cells.1 (Lib.hid ((ctl_end_broken_low h hB c1).mono fun e w' hx => doing_err (hx) (by decide) hc.handler (by show _ = _; exact if_pos (.inl c1))))
  by_cases c2 : m.handler = (m.back.length : Int)
  · have e1 : ¬ (m.handler < 3 ∨ (m.back.length : Int) ≠ m.handler) := fun hh => hh.elim c1 (fun e => e c2.symm)
    by_cases c3 : 48 ≤ m.stack.length
    · exact do_ctl (.inr (.inr (.inr (.inr rfl)))) h.x.cells.1 (Lib.hid ((ctl_end_full h hB (by omega) c2 c3).mono fun e w' hx => doing_err (hx) (by decide) hc.handler (by show (if _ then _ else if _ then _ else _) = _; rw [if_neg e1, if_pos c3])))
    · exact do_ctl (.inr (.inr (.inr (.inr rfl)))) h.x.cells.1 (Lib.hid ((ctl_end_ok h hB (by omega) c2 (by omega)).mono fun e w' hx => doing_ok (hx) (by (try simp only [less_length, List.length_cons, List.length_nil]); omega) (by (try simp only [less_length, List.length_cons, List.length_nil]); omega) (by (try simp only [less_length, List.length_cons, List.length_nil]); omega) (by (try simp only [less_length, List.length_cons, List.length_nil]); omega) (by show (if _ then _ else if _ then _ else _) = _; rw [if_neg e1, if_neg c3]; simp only [less_zero, List.append_nil])))
  · exact do_ctl (.inr (.inr (.inr (.inr rfl)))) h.x.cells.1 (Lib.hid ((ctl_end_broken_else h hB (by omega) c2).mono fun e w' hx => doing_err (hx) (by decide) hc.handler (by show _ = _; exact if_pos (.inr (fun e => c2 e.symm)))))
theorem done_2 (h : Pre w B q ps gs pb gb pf vC vH ch vs vb vm m xb 2 g m.ip nx gt gk [] []) (hB : B ≤ w.heap.size) (hr : Right m) (hc : Cells m) (r1 : 0 ≤ m.stack.length) (r2 : 0 ≤ m.back.length) (r3 : m.stack.length - 0 + 1 ≤ 48) (r4 : m.back.length - 0 + 0 ≤ 48)  :
    Calls Tryz.prog 78 #[.pointer (some ⟨q, 0, none⟩), .pointer (some ⟨xb, 0, none⟩)] w (Doing w B q (feet q ps gs pb gb pf vC vH) xb 2 g m.ip (rowV gt 0) (rowV gk 0) 0 0 (exec 2 m nx g)) := by
  exact do_move (.inr (.inl rfl)) h.x.cells.1 (Lib.hid ((move_lit h.x).mono fun e w' hx => ⟨hx.said, (doing_ok (a := 0) (b := 0) (mE := exec 2 m nx g) (DoOk.of_x h.mc.mach h.nx h.nt h.nk hx.swap) (by (try simp only [less_length, List.length_cons, List.length_nil]); omega) (by (try simp only [less_length, List.length_cons, List.length_nil]); omega) (by (try simp only [less_length, List.length_cons, List.length_nil]); omega) (by (try simp only [less_length, List.length_cons, List.length_nil]); omega) (by simp only [less_zero, List.append_nil]; rfl)).elim fun v hv => by have := hv.1; cases this; exact hv.2.2⟩))
theorem done_3 (h : Pre w B q ps gs pb gb pf vC vH ch vs vb vm m xb 3 g m.ip nx gt gk [] []) (hB : B ≤ w.heap.size) (hr : Right m) (hc : Cells m) (r1 : 0 ≤ m.stack.length) (r2 : 0 ≤ m.back.length) (r3 : m.stack.length - 0 + 0 ≤ 48) (r4 : m.back.length - 0 + 0 ≤ 48)  :
    Calls Tryz.prog 78 #[.pointer (some ⟨q, 0, none⟩), .pointer (some ⟨xb, 0, none⟩)] w (Doing w B q (feet q ps gs pb gb pf vC vH) xb 3 g m.ip (rowV gt 0) (rowV gk 0) 0 0 (exec 3 m nx g)) := by
  exact do_turn (.inr (.inl rfl)) h.x.cells.1 (Lib.hid ((turn_branch h.x).mono fun e w' hx => ⟨hx.said, (doing_ok (a := 0) (b := 0) (mE := exec 3 m nx g) (DoOk.of_x h.mc.mach h.nx h.nt h.nk hx.swap) (by (try simp only [less_length, List.length_cons, List.length_nil]); omega) (by (try simp only [less_length, List.length_cons, List.length_nil]); omega) (by (try simp only [less_length, List.length_cons, List.length_nil]); omega) (by (try simp only [less_length, List.length_cons, List.length_nil]); omega) (by simp only [less_zero, List.append_nil]; rfl)).elim fun v hv => by have := hv.1; cases this; exact hv.2.2⟩))
theorem done_4 (h : Pre w B q ps gs pb gb pf vC vH ch vs vb vm m xb 4 g m.ip nx gt gk [nth m.stack 0] []) (hB : B ≤ w.heap.size) (hr : Right m) (hc : Cells m) (r1 : 1 ≤ m.stack.length) (r2 : 0 ≤ m.back.length) (r3 : m.stack.length - 1 + 0 ≤ 48) (r4 : m.back.length - 0 + 0 ≤ 48)  :
    Calls Tryz.prog 78 #[.pointer (some ⟨q, 0, none⟩), .pointer (some ⟨xb, 0, none⟩)] w (Doing w B q (feet q ps gs pb gb pf vC vH) xb 4 g m.ip (rowV gt 1) (rowV gk 0) 1 0 (exec 4 m nx g)) := by
  by_cases c1 : nth m.stack 0 = 0
  · exact do_turn (.inr (.inr (.inl rfl))) h.x.cells.1 (Lib.hid ((turn_zero h.x c1).mono fun e w' hx => ⟨hx.said, (doing_ok (a := 1) (b := 0) (mE := exec 4 m nx g) (DoOk.of_x h.mc.mach h.nx h.nt h.nk hx.swap) (by (try simp only [less_length, List.length_cons, List.length_nil]); omega) (by (try simp only [less_length, List.length_cons, List.length_nil]); omega) (by (try simp only [less_length, List.length_cons, List.length_nil]); omega) (by (try simp only [less_length, List.length_cons, List.length_nil]); omega) (by simp only [less_zero, List.append_nil]; show ({ m with ip := if _ then _ else _, stack := _ } : M) = _; rw [if_pos c1])).elim fun v hv => by have := hv.1; cases this; exact hv.2.2⟩))
  · exact do_turn (.inr (.inr (.inl rfl))) h.x.cells.1 (Lib.hid ((turn_one h.x c1).mono fun e w' hx => ⟨hx.said, (doing_ok (a := 1) (b := 0) (mE := exec 4 m nx g) (DoOk.of_x h.mc.mach h.nx h.nt h.nk hx.swap) (by (try simp only [less_length, List.length_cons, List.length_nil]); omega) (by (try simp only [less_length, List.length_cons, List.length_nil]); omega) (by (try simp only [less_length, List.length_cons, List.length_nil]); omega) (by (try simp only [less_length, List.length_cons, List.length_nil]); omega) (by simp only [less_zero, List.append_nil]; show ({ m with ip := if _ then _ else _, stack := _ } : M) = _; rw [if_neg c1])).elim fun v hv => by have := hv.1; cases this; exact hv.2.2⟩))
theorem done_5 (h : Pre w B q ps gs pb gb pf vC vH ch vs vb vm m xb 5 g m.ip nx gt gk [] [nth m.back 0]) (hB : B ≤ w.heap.size) (hr : Right m) (hc : Cells m) (r1 : 0 ≤ m.stack.length) (r2 : 1 ≤ m.back.length) (r3 : m.stack.length - 0 + 0 ≤ 48) (r4 : m.back.length - 1 + 0 ≤ 48)  :
    Calls Tryz.prog 78 #[.pointer (some ⟨q, 0, none⟩), .pointer (some ⟨xb, 0, none⟩)] w (Doing w B q (feet q ps gs pb gb pf vC vH) xb 5 g m.ip (rowV gt 0) (rowV gk 1) 0 1 (exec 5 m nx g)) := by
  exact do_turn (.inl rfl) h.x.cells.1 (Lib.hid ((turn_exit h.x).mono fun e w' hx => ⟨hx.said, (doing_ok (a := 0) (b := 1) (mE := exec 5 m nx g) (DoOk.of_x h.mc.mach h.nx h.nt h.nk hx.swap) (by (try simp only [less_length, List.length_cons, List.length_nil]); omega) (by (try simp only [less_length, List.length_cons, List.length_nil]); omega) (by (try simp only [less_length, List.length_cons, List.length_nil]); omega) (by (try simp only [less_length, List.length_cons, List.length_nil]); omega) (by simp only [less_zero, List.append_nil]; rfl)).elim fun v hv => by have := hv.1; cases this; exact hv.2.2⟩))
theorem done_6 (h : Pre w B q ps gs pb gb pf vC vH ch vs vb vm m xb 6 g m.ip nx gt gk [nth m.stack 0] []) (hB : B ≤ w.heap.size) (hr : Right m) (hc : Cells m) (r1 : 1 ≤ m.stack.length) (r2 : 0 ≤ m.back.length) (r3 : m.stack.length - 1 + 2 ≤ 48) (r4 : m.back.length - 0 + 0 ≤ 48)  :
    Calls Tryz.prog 78 #[.pointer (some ⟨q, 0, none⟩), .pointer (some ⟨xb, 0, none⟩)] w (Doing w B q (feet q ps gs pb gb pf vC vH) xb 6 g m.ip (rowV gt 1) (rowV gk 0) 1 0 (exec 6 m nx g)) := by
  exact do_move (.inr (.inr (.inl rfl))) h.x.cells.1 (Lib.hid ((move_dup h.x).mono fun e w' hx => ⟨hx.said, (doing_ok (a := 1) (b := 0) (mE := exec 6 m nx g) (DoOk.of_x h.mc.mach h.nx h.nt h.nk hx.swap) (by (try simp only [less_length, List.length_cons, List.length_nil]); omega) (by (try simp only [less_length, List.length_cons, List.length_nil]); omega) (by (try simp only [less_length, List.length_cons, List.length_nil]); omega) (by (try simp only [less_length, List.length_cons, List.length_nil]); omega) (by simp only [less_zero, List.append_nil]; rfl)).elim fun v hv => by have := hv.1; cases this; exact hv.2.2⟩))
theorem done_7 (h : Pre w B q ps gs pb gb pf vC vH ch vs vb vm m xb 7 g m.ip nx gt gk [nth m.stack 0] []) (hB : B ≤ w.heap.size) (hr : Right m) (hc : Cells m) (r1 : 1 ≤ m.stack.length) (r2 : 0 ≤ m.back.length) (r3 : m.stack.length - 1 + 0 ≤ 48) (r4 : m.back.length - 0 + 0 ≤ 48)  :
    Calls Tryz.prog 78 #[.pointer (some ⟨q, 0, none⟩), .pointer (some ⟨xb, 0, none⟩)] w (Doing w B q (feet q ps gs pb gb pf vC vH) xb 7 g m.ip (rowV gt 1) (rowV gk 0) 1 0 (exec 7 m nx g)) := by
  exact do_move (.inr (.inr (.inr (.inl rfl)))) h.x.cells.1 (Lib.hid ((move_drop h.x).mono fun e w' hx => ⟨hx.said, (doing_ok (a := 1) (b := 0) (mE := exec 7 m nx g) (DoOk.of_x h.mc.mach h.nx h.nt h.nk hx.swap) (by (try simp only [less_length, List.length_cons, List.length_nil]); omega) (by (try simp only [less_length, List.length_cons, List.length_nil]); omega) (by (try simp only [less_length, List.length_cons, List.length_nil]); omega) (by (try simp only [less_length, List.length_cons, List.length_nil]); omega) (by simp only [less_zero, List.append_nil]; rfl)).elim fun v hv => by have := hv.1; cases this; exact hv.2.2⟩))
theorem done_8 (h : Pre w B q ps gs pb gb pf vC vH ch vs vb vm m xb 8 g m.ip nx gt gk [nth m.stack 1, nth m.stack 0] []) (hB : B ≤ w.heap.size) (hr : Right m) (hc : Cells m) (r1 : 2 ≤ m.stack.length) (r2 : 0 ≤ m.back.length) (r3 : m.stack.length - 2 + 2 ≤ 48) (r4 : m.back.length - 0 + 0 ≤ 48)  :
    Calls Tryz.prog 78 #[.pointer (some ⟨q, 0, none⟩), .pointer (some ⟨xb, 0, none⟩)] w (Doing w B q (feet q ps gs pb gb pf vC vH) xb 8 g m.ip (rowV gt 2) (rowV gk 0) 2 0 (exec 8 m nx g)) := by
  exact do_move (.inr (.inr (.inr (.inr (.inl rfl))))) h.x.cells.1 (Lib.hid ((move_swap h.x).mono fun e w' hx => ⟨hx.said, (doing_ok (a := 2) (b := 0) (mE := exec 8 m nx g) (DoOk.of_x h.mc.mach h.nx h.nt h.nk hx.swap) (by (try simp only [less_length, List.length_cons, List.length_nil]); omega) (by (try simp only [less_length, List.length_cons, List.length_nil]); omega) (by (try simp only [less_length, List.length_cons, List.length_nil]); omega) (by (try simp only [less_length, List.length_cons, List.length_nil]); omega) (by simp only [less_zero, List.append_nil]; rfl)).elim fun v hv => by have := hv.1; cases this; exact hv.2.2⟩))
theorem done_9 (h : Pre w B q ps gs pb gb pf vC vH ch vs vb vm m xb 9 g m.ip nx gt gk [nth m.stack 1, nth m.stack 0] []) (hB : B ≤ w.heap.size) (hr : Right m) (hc : Cells m) (r1 : 2 ≤ m.stack.length) (r2 : 0 ≤ m.back.length) (r3 : m.stack.length - 2 + 3 ≤ 48) (r4 : m.back.length - 0 + 0 ≤ 48)  :
    Calls Tryz.prog 78 #[.pointer (some ⟨q, 0, none⟩), .pointer (some ⟨xb, 0, none⟩)] w (Doing w B q (feet q ps gs pb gb pf vC vH) xb 9 g m.ip (rowV gt 2) (rowV gk 0) 2 0 (exec 9 m nx g)) := by
  exact do_move (.inr (.inr (.inr (.inr (.inr (.inl rfl)))))) h.x.cells.1 (Lib.hid ((move_copy h.x).mono fun e w' hx => ⟨hx.said, (doing_ok (a := 2) (b := 0) (mE := exec 9 m nx g) (DoOk.of_x h.mc.mach h.nx h.nt h.nk hx.swap) (by (try simp only [less_length, List.length_cons, List.length_nil]); omega) (by (try simp only [less_length, List.length_cons, List.length_nil]); omega) (by (try simp only [less_length, List.length_cons, List.length_nil]); omega) (by (try simp only [less_length, List.length_cons, List.length_nil]); omega) (by simp only [less_zero, List.append_nil]; rfl)).elim fun v hv => by have := hv.1; cases this; exact hv.2.2⟩))
theorem done_10 (h : Pre w B q ps gs pb gb pf vC vH ch vs vb vm m xb 10 g m.ip nx gt gk [nth m.stack 2, nth m.stack 1, nth m.stack 0] []) (hB : B ≤ w.heap.size) (hr : Right m) (hc : Cells m) (r1 : 3 ≤ m.stack.length) (r2 : 0 ≤ m.back.length) (r3 : m.stack.length - 3 + 3 ≤ 48) (r4 : m.back.length - 0 + 0 ≤ 48)  :
    Calls Tryz.prog 78 #[.pointer (some ⟨q, 0, none⟩), .pointer (some ⟨xb, 0, none⟩)] w (Doing w B q (feet q ps gs pb gb pf vC vH) xb 10 g m.ip (rowV gt 3) (rowV gk 0) 3 0 (exec 10 m nx g)) := by
  exact do_move (.inr (.inr (.inr (.inr (.inr (.inr (.inl rfl))))))) h.x.cells.1 (Lib.hid ((move_rot h.x).mono fun e w' hx => ⟨hx.said, (doing_ok (a := 3) (b := 0) (mE := exec 10 m nx g) (DoOk.of_x h.mc.mach h.nx h.nt h.nk hx.swap) (by (try simp only [less_length, List.length_cons, List.length_nil]); omega) (by (try simp only [less_length, List.length_cons, List.length_nil]); omega) (by (try simp only [less_length, List.length_cons, List.length_nil]); omega) (by (try simp only [less_length, List.length_cons, List.length_nil]); omega) (by simp only [less_zero, List.append_nil]; rfl)).elim fun v hv => by have := hv.1; cases this; exact hv.2.2⟩))
theorem done_33 (h : Pre w B q ps gs pb gb pf vC vH ch vs vb vm m xb 33 g m.ip nx gt gk [nth m.stack 0] []) (hB : B ≤ w.heap.size) (hr : Right m) (hc : Cells m) (r1 : 1 ≤ m.stack.length) (r2 : 0 ≤ m.back.length) (r3 : m.stack.length - 1 + 0 ≤ 48) (r4 : m.back.length - 0 + 1 ≤ 48)  :
    Calls Tryz.prog 78 #[.pointer (some ⟨q, 0, none⟩), .pointer (some ⟨xb, 0, none⟩)] w (Doing w B q (feet q ps gs pb gb pf vC vH) xb 33 g m.ip (rowV gt 1) (rowV gk 0) 1 0 (exec 33 m nx g)) := by
  exact do_move (.inr (.inr (.inr (.inr (.inr (.inr (.inr (.inl rfl)))))))) h.x.cells.1 (Lib.hid ((move_toBack h.x).mono fun e w' hx => ⟨hx.said, (doing_ok (a := 1) (b := 0) (mE := exec 33 m nx g) (DoOk.of_x h.mc.mach h.nx h.nt h.nk hx.swap) (by (try simp only [less_length, List.length_cons, List.length_nil]); omega) (by (try simp only [less_length, List.length_cons, List.length_nil]); omega) (by (try simp only [less_length, List.length_cons, List.length_nil]); omega) (by (try simp only [less_length, List.length_cons, List.length_nil]); omega) (by simp only [less_zero, List.append_nil]; rfl)).elim fun v hv => by have := hv.1; cases this; exact hv.2.2⟩))
theorem done_34 (h : Pre w B q ps gs pb gb pf vC vH ch vs vb vm m xb 34 g m.ip nx gt gk [] [nth m.back 0]) (hB : B ≤ w.heap.size) (hr : Right m) (hc : Cells m) (r1 : 0 ≤ m.stack.length) (r2 : 1 ≤ m.back.length) (r3 : m.stack.length - 0 + 1 ≤ 48) (r4 : m.back.length - 1 + 0 ≤ 48)  :
    Calls Tryz.prog 78 #[.pointer (some ⟨q, 0, none⟩), .pointer (some ⟨xb, 0, none⟩)] w (Doing w B q (feet q ps gs pb gb pf vC vH) xb 34 g m.ip (rowV gt 0) (rowV gk 1) 0 1 (exec 34 m nx g)) := by
  exact do_move (.inr (.inr (.inr (.inr (.inr (.inr (.inr (.inr (.inl rfl))))))))) h.x.cells.1 (Lib.hid ((move_fromBack h.x).mono fun e w' hx => ⟨hx.said, (doing_ok (a := 0) (b := 1) (mE := exec 34 m nx g) (DoOk.of_x h.mc.mach h.nx h.nt h.nk hx.swap) (by (try simp only [less_length, List.length_cons, List.length_nil]); omega) (by (try simp only [less_length, List.length_cons, List.length_nil]); omega) (by (try simp only [less_length, List.length_cons, List.length_nil]); omega) (by (try simp only [less_length, List.length_cons, List.length_nil]); omega) (by simp only [less_zero, List.append_nil]; rfl)).elim fun v hv => by have := hv.1; cases this; exact hv.2.2⟩))
theorem done_36 (h : Pre w B q ps gs pb gb pf vC vH ch vs vb vm m xb 36 g m.ip nx gt gk [nth m.stack 1, nth m.stack 0] []) (hB : B ≤ w.heap.size) (hr : Right m) (hc : Cells m) (r1 : 2 ≤ m.stack.length) (r2 : 0 ≤ m.back.length) (r3 : m.stack.length - 2 + 0 ≤ 48) (r4 : m.back.length - 0 + 2 ≤ 48)  :
    Calls Tryz.prog 78 #[.pointer (some ⟨q, 0, none⟩), .pointer (some ⟨xb, 0, none⟩)] w (Doing w B q (feet q ps gs pb gb pf vC vH) xb 36 g m.ip (rowV gt 2) (rowV gk 0) 2 0 (exec 36 m nx g)) := by
  exact do_move (.inr (.inr (.inr (.inr (.inr (.inr (.inr (.inr (.inr (.inr (.inl rfl))))))))))) h.x.cells.1 (Lib.hid ((move_do h.x).mono fun e w' hx => ⟨hx.said, (doing_ok (a := 2) (b := 0) (mE := exec 36 m nx g) (DoOk.of_x h.mc.mach h.nx h.nt h.nk hx.swap) (by (try simp only [less_length, List.length_cons, List.length_nil]); omega) (by (try simp only [less_length, List.length_cons, List.length_nil]); omega) (by (try simp only [less_length, List.length_cons, List.length_nil]); omega) (by (try simp only [less_length, List.length_cons, List.length_nil]); omega) (by simp only [less_zero, List.append_nil]; rfl)).elim fun v hv => by have := hv.1; cases this; exact hv.2.2⟩))
theorem done_40 (h : Pre w B q ps gs pb gb pf vC vH ch vs vb vm m xb 40 g m.ip nx gt gk [] [nth m.back 1, nth m.back 0]) (hB : B ≤ w.heap.size) (hr : Right m) (hc : Cells m) (r1 : 0 ≤ m.stack.length) (r2 : 2 ≤ m.back.length) (r3 : m.stack.length - 0 + 0 ≤ 48) (r4 : m.back.length - 2 + 0 ≤ 48)  :
    Calls Tryz.prog 78 #[.pointer (some ⟨q, 0, none⟩), .pointer (some ⟨xb, 0, none⟩)] w (Doing w B q (feet q ps gs pb gb pf vC vH) xb 40 g m.ip (rowV gt 0) (rowV gk 2) 0 2 (exec 40 m nx g)) := by
  exact do_move (.inr (.inr (.inr (.inr (.inr (.inr (.inr (.inr (.inr (.inr (.inr (.inr rfl)))))))))))) h.x.cells.1 (Lib.hid ((move_unloop h.x).mono fun e w' hx => ⟨hx.said, (doing_ok (a := 0) (b := 2) (mE := exec 40 m nx g) (DoOk.of_x h.mc.mach h.nx h.nt h.nk hx.swap) (by (try simp only [less_length, List.length_cons, List.length_nil]); omega) (by (try simp only [less_length, List.length_cons, List.length_nil]); omega) (by (try simp only [less_length, List.length_cons, List.length_nil]); omega) (by (try simp only [less_length, List.length_cons, List.length_nil]); omega) (by simp only [less_zero, List.append_nil]; rfl)).elim fun v hv => by have := hv.1; cases this; exact hv.2.2⟩))
theorem done_47 (h : Pre w B q ps gs pb gb pf vC vH ch vs vb vm m xb 47 g m.ip nx gt gk [] []) (hB : B ≤ w.heap.size) (hr : Right m) (hc : Cells m) (r1 : 0 ≤ m.stack.length) (r2 : 0 ≤ m.back.length) (r3 : m.stack.length - 0 + 0 ≤ 48) (r4 : m.back.length - 0 + 0 ≤ 48)  :
    Calls Tryz.prog 78 #[.pointer (some ⟨q, 0, none⟩), .pointer (some ⟨xb, 0, none⟩)] w (Doing w B q (feet q ps gs pb gb pf vC vH) xb 47 g m.ip (rowV gt 0) (rowV gk 0) 0 0 (exec 47 m nx g)) := by
  exact do_move (.inl rfl) h.x.cells.1 (Lib.hid ((move_nop h.x).mono fun e w' hx => ⟨hx.said, (doing_ok (a := 0) (b := 0) (mE := exec 47 m nx g) (DoOk.of_x h.mc.mach h.nx h.nt h.nk hx.swap) (by (try simp only [less_length, List.length_cons, List.length_nil]); omega) (by (try simp only [less_length, List.length_cons, List.length_nil]); omega) (by (try simp only [less_length, List.length_cons, List.length_nil]); omega) (by (try simp only [less_length, List.length_cons, List.length_nil]); omega) (by simp only [less_zero, List.append_nil]; rfl)).elim fun v hv => by have := hv.1; cases this; exact hv.2.2⟩))
theorem done_35 (h : Pre w B q ps gs pb gb pf vC vH ch vs vb vm m xb 35 g m.ip nx gt gk [] [nth m.back 0]) (hB : B ≤ w.heap.size) (hr : Right m) (hc : Cells m) (r1 : 0 ≤ m.stack.length) (r2 : 1 ≤ m.back.length) (r3 : m.stack.length - 0 + 1 ≤ 48) (r4 : m.back.length - 1 + 1 ≤ 48)  :
    Calls Tryz.prog 78 #[.pointer (some ⟨q, 0, none⟩), .pointer (some ⟨xb, 0, none⟩)] w (Doing w B q (feet q ps gs pb gb pf vC vH) xb 35 g m.ip (rowV gt 0) (rowV gk 1) 0 1 (exec 35 m nx g)) := by
  exact do_move (.inr (.inr (.inr (.inr (.inr (.inr (.inr (.inr (.inr (.inl rfl)))))))))) h.x.cells.1 (Lib.hid ((move_atBack h.x).mono fun e w' hx => ⟨hx.said, (doing_ok (a := 0) (b := 1) (mE := exec 35 m nx g) (DoOk.of_x h.mc.mach h.nx h.nt h.nk hx.swap) (by (try simp only [less_length, List.length_cons, List.length_nil]); omega) (by (try simp only [less_length, List.length_cons, List.length_nil]); omega) (by (try simp only [less_length, List.length_cons, List.length_nil]); omega) (by (try simp only [less_length, List.length_cons, List.length_nil]); omega) (by simp only [less_zero, less_one r2]; rfl)).elim fun v hv => by have := hv.1; cases this; exact hv.2.2⟩))
theorem done_39 (h : Pre w B q ps gs pb gb pf vC vH ch vs vb vm m xb 39 g m.ip nx gt gk [] [nth m.back 2, nth m.back 1, nth m.back 0]) (hB : B ≤ w.heap.size) (hr : Right m) (hc : Cells m) (r1 : 0 ≤ m.stack.length) (r2 : 3 ≤ m.back.length) (r3 : m.stack.length - 0 + 1 ≤ 48) (r4 : m.back.length - 3 + 3 ≤ 48)  :
    Calls Tryz.prog 78 #[.pointer (some ⟨q, 0, none⟩), .pointer (some ⟨xb, 0, none⟩)] w (Doing w B q (feet q ps gs pb gb pf vC vH) xb 39 g m.ip (rowV gt 0) (rowV gk 3) 0 3 (exec 39 m nx g)) := by
  exact do_move (.inr (.inr (.inr (.inr (.inr (.inr (.inr (.inr (.inr (.inr (.inr (.inl rfl)))))))))))) h.x.cells.1 (Lib.hid ((move_j h.x).mono fun e w' hx => ⟨hx.said, (doing_ok (a := 0) (b := 3) (mE := exec 39 m nx g) (DoOk.of_x h.mc.mach h.nx h.nt h.nk hx.swap) (by (try simp only [less_length, List.length_cons, List.length_nil]); omega) (by (try simp only [less_length, List.length_cons, List.length_nil]); omega) (by (try simp only [less_length, List.length_cons, List.length_nil]); omega) (by (try simp only [less_length, List.length_cons, List.length_nil]); omega) (by simp only [less_zero, less_three r2]; rfl)).elim fun v hv => by have := hv.1; cases this; exact hv.2.2⟩))
theorem done_16 (h : Pre w B q ps gs pb gb pf vC vH ch vs vb vm m xb 16 g m.ip nx gt gk [nth m.stack 0] []) (hB : B ≤ w.heap.size) (hr : Right m) (hc : Cells m) (r1 : 1 ≤ m.stack.length) (r2 : 0 ≤ m.back.length) (r3 : m.stack.length - 1 + 1 ≤ 48) (r4 : m.back.length - 0 + 0 ≤ 48)  :
    Calls Tryz.prog 78 #[.pointer (some ⟨q, 0, none⟩), .pointer (some ⟨xb, 0, none⟩)] w (Doing w B q (feet q ps gs pb gb pf vC vH) xb 16 g m.ip (rowV gt 1) (rowV gk 0) 1 0 (exec 16 m nx g)) := by
  exact do_reckon1 (.inr (.inr (.inr (.inr (.inr (.inl rfl)))))) h.x.cells.1 (Lib.hid ((reckon_one (k := 16) h.x rfl (nth_in hc.stack (by omega))).mono fun e w' hx => doing_ok (DoOk.of_x h.mc.mach h.nx h.nt h.nk hx) (by (try simp only [less_length, List.length_cons, List.length_nil]); omega) (by (try simp only [less_length, List.length_cons, List.length_nil]); omega) (by (try simp only [less_length, List.length_cons, List.length_nil]); omega) (by (try simp only [less_length, List.length_cons, List.length_nil]); omega) (by simp only [less_zero, List.append_nil]; rfl)))
theorem done_20 (h : Pre w B q ps gs pb gb pf vC vH ch vs vb vm m xb 20 g m.ip nx gt gk [nth m.stack 0] []) (hB : B ≤ w.heap.size) (hr : Right m) (hc : Cells m) (r1 : 1 ≤ m.stack.length) (r2 : 0 ≤ m.back.length) (r3 : m.stack.length - 1 + 1 ≤ 48) (r4 : m.back.length - 0 + 0 ≤ 48)  :
    Calls Tryz.prog 78 #[.pointer (some ⟨q, 0, none⟩), .pointer (some ⟨xb, 0, none⟩)] w (Doing w B q (feet q ps gs pb gb pf vC vH) xb 20 g m.ip (rowV gt 1) (rowV gk 0) 1 0 (exec 20 m nx g)) := by
  exact do_reckon1 (.inr (.inr (.inr (.inr (.inr (.inr (.inr (.inr (.inr rfl))))))))) h.x.cells.1 (Lib.hid ((reckon_one (k := 20) h.x rfl (nth_in hc.stack (by omega))).mono fun e w' hx => doing_ok (DoOk.of_x h.mc.mach h.nx h.nt h.nk hx) (by (try simp only [less_length, List.length_cons, List.length_nil]); omega) (by (try simp only [less_length, List.length_cons, List.length_nil]); omega) (by (try simp only [less_length, List.length_cons, List.length_nil]); omega) (by (try simp only [less_length, List.length_cons, List.length_nil]); omega) (by simp only [less_zero, List.append_nil]; rfl)))
theorem done_26 (h : Pre w B q ps gs pb gb pf vC vH ch vs vb vm m xb 26 g m.ip nx gt gk [nth m.stack 0] []) (hB : B ≤ w.heap.size) (hr : Right m) (hc : Cells m) (r1 : 1 ≤ m.stack.length) (r2 : 0 ≤ m.back.length) (r3 : m.stack.length - 1 + 1 ≤ 48) (r4 : m.back.length - 0 + 0 ≤ 48)  :
    Calls Tryz.prog 78 #[.pointer (some ⟨q, 0, none⟩), .pointer (some ⟨xb, 0, none⟩)] w (Doing w B q (feet q ps gs pb gb pf vC vH) xb 26 g m.ip (rowV gt 1) (rowV gk 0) 1 0 (exec 26 m nx g)) := by
  exact do_reckon2 (.inr (.inr (.inr (.inr (.inr (.inl rfl)))))) h.x.cells.1 (Lib.hid ((reckon_one (k := 26) h.x rfl (nth_in hc.stack (by omega))).mono fun e w' hx => doing_ok (DoOk.of_x h.mc.mach h.nx h.nt h.nk hx) (by (try simp only [less_length, List.length_cons, List.length_nil]); omega) (by (try simp only [less_length, List.length_cons, List.length_nil]); omega) (by (try simp only [less_length, List.length_cons, List.length_nil]); omega) (by (try simp only [less_length, List.length_cons, List.length_nil]); omega) (by simp only [less_zero, List.append_nil]; rfl)))
theorem done_27 (h : Pre w B q ps gs pb gb pf vC vH ch vs vb vm m xb 27 g m.ip nx gt gk [nth m.stack 0] []) (hB : B ≤ w.heap.size) (hr : Right m) (hc : Cells m) (r1 : 1 ≤ m.stack.length) (r2 : 0 ≤ m.back.length) (r3 : m.stack.length - 1 + 1 ≤ 48) (r4 : m.back.length - 0 + 0 ≤ 48)  :
    Calls Tryz.prog 78 #[.pointer (some ⟨q, 0, none⟩), .pointer (some ⟨xb, 0, none⟩)] w (Doing w B q (feet q ps gs pb gb pf vC vH) xb 27 g m.ip (rowV gt 1) (rowV gk 0) 1 0 (exec 27 m nx g)) := by
  exact do_reckon2 (.inr (.inr (.inr (.inr (.inr (.inr (.inl rfl))))))) h.x.cells.1 (Lib.hid ((reckon_one (k := 27) h.x rfl (nth_in hc.stack (by omega))).mono fun e w' hx => doing_ok (DoOk.of_x h.mc.mach h.nx h.nt h.nk hx) (by (try simp only [less_length, List.length_cons, List.length_nil]); omega) (by (try simp only [less_length, List.length_cons, List.length_nil]); omega) (by (try simp only [less_length, List.length_cons, List.length_nil]); omega) (by (try simp only [less_length, List.length_cons, List.length_nil]); omega) (by simp only [less_zero, List.append_nil]; rfl)))
theorem done_11 (h : Pre w B q ps gs pb gb pf vC vH ch vs vb vm m xb 11 g m.ip nx gt gk [nth m.stack 1, nth m.stack 0] []) (hB : B ≤ w.heap.size) (hr : Right m) (hc : Cells m) (r1 : 2 ≤ m.stack.length) (r2 : 0 ≤ m.back.length) (r3 : m.stack.length - 2 + 1 ≤ 48) (r4 : m.back.length - 0 + 0 ≤ 48)  :
    Calls Tryz.prog 78 #[.pointer (some ⟨q, 0, none⟩), .pointer (some ⟨xb, 0, none⟩)] w (Doing w B q (feet q ps gs pb gb pf vC vH) xb 11 g m.ip (rowV gt 2) (rowV gk 0) 2 0 (exec 11 m nx g)) := by
  have q0 : Cell.In (nth m.stack 0) := nth_in hc.stack (by omega)
  have q1 : Cell.In (nth m.stack 1) := nth_in hc.stack (by omega)
  by_cases c1 : (Cell.two 11 (nth m.stack 1) (nth m.stack 0)).2 = true
  · exact do_reckon1 (.inl rfl) h.x.cells.1 (Lib.hid ((reckon_two (k := 11) h.x rfl c1 q1 q0).mono fun e w' hx => doing_ok (DoOk.of_x h.mc.mach h.nx h.nt h.nk hx) (by (try simp only [less_length, List.length_cons, List.length_nil]); omega) (by (try simp only [less_length, List.length_cons, List.length_nil]); omega) (by (try simp only [less_length, List.length_cons, List.length_nil]); omega) (by (try simp only [less_length, List.length_cons, List.length_nil]); omega) (by have e := (exec_two m nx g (k := 11) (by decide)).trans (if_pos c1); simp only [less_zero, List.append_nil]; exact e)))
  · exact do_reckon1 (.inl rfl) h.x.cells.1 (Lib.hid ((reckon_zero (k := 11) h.x rfl (by simpa using c1) q1 q0).mono fun e w' hx => doing_err (DoErr.of_x h.mc.mach h.nx hx) (by decide) hc.handler ((exec_two m nx g (k := 11) (by decide)).trans (if_neg c1))))
theorem done_12 (h : Pre w B q ps gs pb gb pf vC vH ch vs vb vm m xb 12 g m.ip nx gt gk [nth m.stack 1, nth m.stack 0] []) (hB : B ≤ w.heap.size) (hr : Right m) (hc : Cells m) (r1 : 2 ≤ m.stack.length) (r2 : 0 ≤ m.back.length) (r3 : m.stack.length - 2 + 1 ≤ 48) (r4 : m.back.length - 0 + 0 ≤ 48)  :
    Calls Tryz.prog 78 #[.pointer (some ⟨q, 0, none⟩), .pointer (some ⟨xb, 0, none⟩)] w (Doing w B q (feet q ps gs pb gb pf vC vH) xb 12 g m.ip (rowV gt 2) (rowV gk 0) 2 0 (exec 12 m nx g)) := by
  have q0 : Cell.In (nth m.stack 0) := nth_in hc.stack (by omega)
  have q1 : Cell.In (nth m.stack 1) := nth_in hc.stack (by omega)
  by_cases c1 : (Cell.two 12 (nth m.stack 1) (nth m.stack 0)).2 = true
  · exact do_reckon1 (.inr (.inl rfl)) h.x.cells.1 (Lib.hid ((reckon_two (k := 12) h.x rfl c1 q1 q0).mono fun e w' hx => doing_ok (DoOk.of_x h.mc.mach h.nx h.nt h.nk hx) (by (try simp only [less_length, List.length_cons, List.length_nil]); omega) (by (try simp only [less_length, List.length_cons, List.length_nil]); omega) (by (try simp only [less_length, List.length_cons, List.length_nil]); omega) (by (try simp only [less_length, List.length_cons, List.length_nil]); omega) (by have e := (exec_two m nx g (k := 12) (by decide)).trans (if_pos c1); simp only [less_zero, List.append_nil]; exact e)))
  · exact do_reckon1 (.inr (.inl rfl)) h.x.cells.1 (Lib.hid ((reckon_zero (k := 12) h.x rfl (by simpa using c1) q1 q0).mono fun e w' hx => doing_err (DoErr.of_x h.mc.mach h.nx hx) (by decide) hc.handler ((exec_two m nx g (k := 12) (by decide)).trans (if_neg c1))))
theorem done_13 (h : Pre w B q ps gs pb gb pf vC vH ch vs vb vm m xb 13 g m.ip nx gt gk [nth m.stack 1, nth m.stack 0] []) (hB : B ≤ w.heap.size) (hr : Right m) (hc : Cells m) (r1 : 2 ≤ m.stack.length) (r2 : 0 ≤ m.back.length) (r3 : m.stack.length - 2 + 1 ≤ 48) (r4 : m.back.length - 0 + 0 ≤ 48)  :
    Calls Tryz.prog 78 #[.pointer (some ⟨q, 0, none⟩), .pointer (some ⟨xb, 0, none⟩)] w (Doing w B q (feet q ps gs pb gb pf vC vH) xb 13 g m.ip (rowV gt 2) (rowV gk 0) 2 0 (exec 13 m nx g)) := by
  have q0 : Cell.In (nth m.stack 0) := nth_in hc.stack (by omega)
  have q1 : Cell.In (nth m.stack 1) := nth_in hc.stack (by omega)
  by_cases c1 : (Cell.two 13 (nth m.stack 1) (nth m.stack 0)).2 = true
  · exact do_reckon1 (.inr (.inr (.inl rfl))) h.x.cells.1 (Lib.hid ((reckon_two (k := 13) h.x rfl c1 q1 q0).mono fun e w' hx => doing_ok (DoOk.of_x h.mc.mach h.nx h.nt h.nk hx) (by (try simp only [less_length, List.length_cons, List.length_nil]); omega) (by (try simp only [less_length, List.length_cons, List.length_nil]); omega) (by (try simp only [less_length, List.length_cons, List.length_nil]); omega) (by (try simp only [less_length, List.length_cons, List.length_nil]); omega) (by have e := (exec_two m nx g (k := 13) (by decide)).trans (if_pos c1); simp only [less_zero, List.append_nil]; exact e)))
  · exact do_reckon1 (.inr (.inr (.inl rfl))) h.x.cells.1 (Lib.hid ((reckon_zero (k := 13) h.x rfl (by simpa using c1) q1 q0).mono fun e w' hx => doing_err (DoErr.of_x h.mc.mach h.nx hx) (by decide) hc.handler ((exec_two m nx g (k := 13) (by decide)).trans (if_neg c1))))
theorem done_14 (h : Pre w B q ps gs pb gb pf vC vH ch vs vb vm m xb 14 g m.ip nx gt gk [nth m.stack 1, nth m.stack 0] []) (hB : B ≤ w.heap.size) (hr : Right m) (hc : Cells m) (r1 : 2 ≤ m.stack.length) (r2 : 0 ≤ m.back.length) (r3 : m.stack.length - 2 + 1 ≤ 48) (r4 : m.back.length - 0 + 0 ≤ 48)  :
    Calls Tryz.prog 78 #[.pointer (some ⟨q, 0, none⟩), .pointer (some ⟨xb, 0, none⟩)] w (Doing w B q (feet q ps gs pb gb pf vC vH) xb 14 g m.ip (rowV gt 2) (rowV gk 0) 2 0 (exec 14 m nx g)) := by
  have q0 : Cell.In (nth m.stack 0) := nth_in hc.stack (by omega)
  have q1 : Cell.In (nth m.stack 1) := nth_in hc.stack (by omega)
  by_cases c1 : (Cell.two 14 (nth m.stack 1) (nth m.stack 0)).2 = true
  · exact do_reckon1 (.inr (.inr (.inr (.inl rfl)))) h.x.cells.1 (Lib.hid ((reckon_two (k := 14) h.x rfl c1 q1 q0).mono fun e w' hx => doing_ok (DoOk.of_x h.mc.mach h.nx h.nt h.nk hx) (by (try simp only [less_length, List.length_cons, List.length_nil]); omega) (by (try simp only [less_length, List.length_cons, List.length_nil]); omega) (by (try simp only [less_length, List.length_cons, List.length_nil]); omega) (by (try simp only [less_length, List.length_cons, List.length_nil]); omega) (by have e := (exec_two m nx g (k := 14) (by decide)).trans (if_pos c1); simp only [less_zero, List.append_nil]; exact e)))
  · exact do_reckon1 (.inr (.inr (.inr (.inl rfl)))) h.x.cells.1 (Lib.hid ((reckon_zero (k := 14) h.x rfl (by simpa using c1) q1 q0).mono fun e w' hx => doing_err (DoErr.of_x h.mc.mach h.nx hx) (by decide) hc.handler ((exec_two m nx g (k := 14) (by decide)).trans (if_neg c1))))
theorem done_15 (h : Pre w B q ps gs pb gb pf vC vH ch vs vb vm m xb 15 g m.ip nx gt gk [nth m.stack 1, nth m.stack 0] []) (hB : B ≤ w.heap.size) (hr : Right m) (hc : Cells m) (r1 : 2 ≤ m.stack.length) (r2 : 0 ≤ m.back.length) (r3 : m.stack.length - 2 + 1 ≤ 48) (r4 : m.back.length - 0 + 0 ≤ 48)  :
    Calls Tryz.prog 78 #[.pointer (some ⟨q, 0, none⟩), .pointer (some ⟨xb, 0, none⟩)] w (Doing w B q (feet q ps gs pb gb pf vC vH) xb 15 g m.ip (rowV gt 2) (rowV gk 0) 2 0 (exec 15 m nx g)) := by
  have q0 : Cell.In (nth m.stack 0) := nth_in hc.stack (by omega)
  have q1 : Cell.In (nth m.stack 1) := nth_in hc.stack (by omega)
  by_cases c1 : (Cell.two 15 (nth m.stack 1) (nth m.stack 0)).2 = true
  · exact do_reckon1 (.inr (.inr (.inr (.inr (.inl rfl))))) h.x.cells.1 (Lib.hid ((reckon_two (k := 15) h.x rfl c1 q1 q0).mono fun e w' hx => doing_ok (DoOk.of_x h.mc.mach h.nx h.nt h.nk hx) (by (try simp only [less_length, List.length_cons, List.length_nil]); omega) (by (try simp only [less_length, List.length_cons, List.length_nil]); omega) (by (try simp only [less_length, List.length_cons, List.length_nil]); omega) (by (try simp only [less_length, List.length_cons, List.length_nil]); omega) (by have e := (exec_two m nx g (k := 15) (by decide)).trans (if_pos c1); simp only [less_zero, List.append_nil]; exact e)))
  · exact do_reckon1 (.inr (.inr (.inr (.inr (.inl rfl))))) h.x.cells.1 (Lib.hid ((reckon_zero (k := 15) h.x rfl (by simpa using c1) q1 q0).mono fun e w' hx => doing_err (DoErr.of_x h.mc.mach h.nx hx) (by decide) hc.handler ((exec_two m nx g (k := 15) (by decide)).trans (if_neg c1))))
theorem done_17 (h : Pre w B q ps gs pb gb pf vC vH ch vs vb vm m xb 17 g m.ip nx gt gk [nth m.stack 1, nth m.stack 0] []) (hB : B ≤ w.heap.size) (hr : Right m) (hc : Cells m) (r1 : 2 ≤ m.stack.length) (r2 : 0 ≤ m.back.length) (r3 : m.stack.length - 2 + 1 ≤ 48) (r4 : m.back.length - 0 + 0 ≤ 48)  :
    Calls Tryz.prog 78 #[.pointer (some ⟨q, 0, none⟩), .pointer (some ⟨xb, 0, none⟩)] w (Doing w B q (feet q ps gs pb gb pf vC vH) xb 17 g m.ip (rowV gt 2) (rowV gk 0) 2 0 (exec 17 m nx g)) := by
  have q0 : Cell.In (nth m.stack 0) := nth_in hc.stack (by omega)
  have q1 : Cell.In (nth m.stack 1) := nth_in hc.stack (by omega)
  by_cases c1 : (Cell.two 17 (nth m.stack 1) (nth m.stack 0)).2 = true
  · exact do_reckon1 (.inr (.inr (.inr (.inr (.inr (.inr (.inl rfl))))))) h.x.cells.1 (Lib.hid ((reckon_two (k := 17) h.x rfl c1 q1 q0).mono fun e w' hx => doing_ok (DoOk.of_x h.mc.mach h.nx h.nt h.nk hx) (by (try simp only [less_length, List.length_cons, List.length_nil]); omega) (by (try simp only [less_length, List.length_cons, List.length_nil]); omega) (by (try simp only [less_length, List.length_cons, List.length_nil]); omega) (by (try simp only [less_length, List.length_cons, List.length_nil]); omega) (by have e := (exec_two m nx g (k := 17) (by decide)).trans (if_pos c1); simp only [less_zero, List.append_nil]; exact e)))
  · exact do_reckon1 (.inr (.inr (.inr (.inr (.inr (.inr (.inl rfl))))))) h.x.cells.1 (Lib.hid ((reckon_zero (k := 17) h.x rfl (by simpa using c1) q1 q0).mono fun e w' hx => doing_err (DoErr.of_x h.mc.mach h.nx hx) (by decide) hc.handler ((exec_two m nx g (k := 17) (by decide)).trans (if_neg c1))))
theorem done_18 (h : Pre w B q ps gs pb gb pf vC vH ch vs vb vm m xb 18 g m.ip nx gt gk [nth m.stack 1, nth m.stack 0] []) (hB : B ≤ w.heap.size) (hr : Right m) (hc : Cells m) (r1 : 2 ≤ m.stack.length) (r2 : 0 ≤ m.back.length) (r3 : m.stack.length - 2 + 1 ≤ 48) (r4 : m.back.length - 0 + 0 ≤ 48)  :
    Calls Tryz.prog 78 #[.pointer (some ⟨q, 0, none⟩), .pointer (some ⟨xb, 0, none⟩)] w (Doing w B q (feet q ps gs pb gb pf vC vH) xb 18 g m.ip (rowV gt 2) (rowV gk 0) 2 0 (exec 18 m nx g)) := by
  have q0 : Cell.In (nth m.stack 0) := nth_in hc.stack (by omega)
  have q1 : Cell.In (nth m.stack 1) := nth_in hc.stack (by omega)
  by_cases c1 : (Cell.two 18 (nth m.stack 1) (nth m.stack 0)).2 = true
  · exact do_reckon1 (.inr (.inr (.inr (.inr (.inr (.inr (.inr (.inl rfl)))))))) h.x.cells.1 (Lib.hid ((reckon_two (k := 18) h.x rfl c1 q1 q0).mono fun e w' hx => doing_ok (DoOk.of_x h.mc.mach h.nx h.nt h.nk hx) (by (try simp only [less_length, List.length_cons, List.length_nil]); omega) (by (try simp only [less_length, List.length_cons, List.length_nil]); omega) (by (try simp only [less_length, List.length_cons, List.length_nil]); omega) (by (try simp only [less_length, List.length_cons, List.length_nil]); omega) (by have e := (exec_two m nx g (k := 18) (by decide)).trans (if_pos c1); simp only [less_zero, List.append_nil]; exact e)))
  · exact do_reckon1 (.inr (.inr (.inr (.inr (.inr (.inr (.inr (.inl rfl)))))))) h.x.cells.1 (Lib.hid ((reckon_zero (k := 18) h.x rfl (by simpa using c1) q1 q0).mono fun e w' hx => doing_err (DoErr.of_x h.mc.mach h.nx hx) (by decide) hc.handler ((exec_two m nx g (k := 18) (by decide)).trans (if_neg c1))))
theorem done_19 (h : Pre w B q ps gs pb gb pf vC vH ch vs vb vm m xb 19 g m.ip nx gt gk [nth m.stack 1, nth m.stack 0] []) (hB : B ≤ w.heap.size) (hr : Right m) (hc : Cells m) (r1 : 2 ≤ m.stack.length) (r2 : 0 ≤ m.back.length) (r3 : m.stack.length - 2 + 1 ≤ 48) (r4 : m.back.length - 0 + 0 ≤ 48)  :
    Calls Tryz.prog 78 #[.pointer (some ⟨q, 0, none⟩), .pointer (some ⟨xb, 0, none⟩)] w (Doing w B q (feet q ps gs pb gb pf vC vH) xb 19 g m.ip (rowV gt 2) (rowV gk 0) 2 0 (exec 19 m nx g)) := by
  have q0 : Cell.In (nth m.stack 0) := nth_in hc.stack (by omega)
  have q1 : Cell.In (nth m.stack 1) := nth_in hc.stack (by omega)
  by_cases c1 : (Cell.two 19 (nth m.stack 1) (nth m.stack 0)).2 = true
  · exact do_reckon1 (.inr (.inr (.inr (.inr (.inr (.inr (.inr (.inr (.inl rfl))))))))) h.x.cells.1 (Lib.hid ((reckon_two (k := 19) h.x rfl c1 q1 q0).mono fun e w' hx => doing_ok (DoOk.of_x h.mc.mach h.nx h.nt h.nk hx) (by (try simp only [less_length, List.length_cons, List.length_nil]); omega) (by (try simp only [less_length, List.length_cons, List.length_nil]); omega) (by (try simp only [less_length, List.length_cons, List.length_nil]); omega) (by (try simp only [less_length, List.length_cons, List.length_nil]); omega) (by have e := (exec_two m nx g (k := 19) (by decide)).trans (if_pos c1); simp only [less_zero, List.append_nil]; exact e)))
  · exact do_reckon1 (.inr (.inr (.inr (.inr (.inr (.inr (.inr (.inr (.inl rfl))))))))) h.x.cells.1 (Lib.hid ((reckon_zero (k := 19) h.x rfl (by simpa using c1) q1 q0).mono fun e w' hx => doing_err (DoErr.of_x h.mc.mach h.nx hx) (by decide) hc.handler ((exec_two m nx g (k := 19) (by decide)).trans (if_neg c1))))
theorem done_21 (h : Pre w B q ps gs pb gb pf vC vH ch vs vb vm m xb 21 g m.ip nx gt gk [nth m.stack 1, nth m.stack 0] []) (hB : B ≤ w.heap.size) (hr : Right m) (hc : Cells m) (r1 : 2 ≤ m.stack.length) (r2 : 0 ≤ m.back.length) (r3 : m.stack.length - 2 + 1 ≤ 48) (r4 : m.back.length - 0 + 0 ≤ 48)  :
    Calls Tryz.prog 78 #[.pointer (some ⟨q, 0, none⟩), .pointer (some ⟨xb, 0, none⟩)] w (Doing w B q (feet q ps gs pb gb pf vC vH) xb 21 g m.ip (rowV gt 2) (rowV gk 0) 2 0 (exec 21 m nx g)) := by
  have q0 : Cell.In (nth m.stack 0) := nth_in hc.stack (by omega)
  have q1 : Cell.In (nth m.stack 1) := nth_in hc.stack (by omega)
  by_cases c1 : (Cell.two 21 (nth m.stack 1) (nth m.stack 0)).2 = true
  · exact do_reckon2 (.inl rfl) h.x.cells.1 (Lib.hid ((reckon_two (k := 21) h.x rfl c1 q1 q0).mono fun e w' hx => doing_ok (DoOk.of_x h.mc.mach h.nx h.nt h.nk hx) (by (try simp only [less_length, List.length_cons, List.length_nil]); omega) (by (try simp only [less_length, List.length_cons, List.length_nil]); omega) (by (try simp only [less_length, List.length_cons, List.length_nil]); omega) (by (try simp only [less_length, List.length_cons, List.length_nil]); omega) (by have e := (exec_two m nx g (k := 21) (by decide)).trans (if_pos c1); simp only [less_zero, List.append_nil]; exact e)))
  · exact do_reckon2 (.inl rfl) h.x.cells.1 (Lib.hid ((reckon_zero (k := 21) h.x rfl (by simpa using c1) q1 q0).mono fun e w' hx => doing_err (DoErr.of_x h.mc.mach h.nx hx) (by decide) hc.handler ((exec_two m nx g (k := 21) (by decide)).trans (if_neg c1))))
theorem done_22 (h : Pre w B q ps gs pb gb pf vC vH ch vs vb vm m xb 22 g m.ip nx gt gk [nth m.stack 1, nth m.stack 0] []) (hB : B ≤ w.heap.size) (hr : Right m) (hc : Cells m) (r1 : 2 ≤ m.stack.length) (r2 : 0 ≤ m.back.length) (r3 : m.stack.length - 2 + 1 ≤ 48) (r4 : m.back.length - 0 + 0 ≤ 48)  :
    Calls Tryz.prog 78 #[.pointer (some ⟨q, 0, none⟩), .pointer (some ⟨xb, 0, none⟩)] w (Doing w B q (feet q ps gs pb gb pf vC vH) xb 22 g m.ip (rowV gt 2) (rowV gk 0) 2 0 (exec 22 m nx g)) := by
  have q0 : Cell.In (nth m.stack 0) := nth_in hc.stack (by omega)
  have q1 : Cell.In (nth m.stack 1) := nth_in hc.stack (by omega)
  by_cases c1 : (Cell.two 22 (nth m.stack 1) (nth m.stack 0)).2 = true
  · exact do_reckon2 (.inr (.inl rfl)) h.x.cells.1 (Lib.hid ((reckon_two (k := 22) h.x rfl c1 q1 q0).mono fun e w' hx => doing_ok (DoOk.of_x h.mc.mach h.nx h.nt h.nk hx) (by (try simp only [less_length, List.length_cons, List.length_nil]); omega) (by (try simp only [less_length, List.length_cons, List.length_nil]); omega) (by (try simp only [less_length, List.length_cons, List.length_nil]); omega) (by (try simp only [less_length, List.length_cons, List.length_nil]); omega) (by have e := (exec_two m nx g (k := 22) (by decide)).trans (if_pos c1); simp only [less_zero, List.append_nil]; exact e)))
  · exact do_reckon2 (.inr (.inl rfl)) h.x.cells.1 (Lib.hid ((reckon_zero (k := 22) h.x rfl (by simpa using c1) q1 q0).mono fun e w' hx => doing_err (DoErr.of_x h.mc.mach h.nx hx) (by decide) hc.handler ((exec_two m nx g (k := 22) (by decide)).trans (if_neg c1))))
theorem done_23 (h : Pre w B q ps gs pb gb pf vC vH ch vs vb vm m xb 23 g m.ip nx gt gk [nth m.stack 1, nth m.stack 0] []) (hB : B ≤ w.heap.size) (hr : Right m) (hc : Cells m) (r1 : 2 ≤ m.stack.length) (r2 : 0 ≤ m.back.length) (r3 : m.stack.length - 2 + 1 ≤ 48) (r4 : m.back.length - 0 + 0 ≤ 48)  :
    Calls Tryz.prog 78 #[.pointer (some ⟨q, 0, none⟩), .pointer (some ⟨xb, 0, none⟩)] w (Doing w B q (feet q ps gs pb gb pf vC vH) xb 23 g m.ip (rowV gt 2) (rowV gk 0) 2 0 (exec 23 m nx g)) := by
  have q0 : Cell.In (nth m.stack 0) := nth_in hc.stack (by omega)
  have q1 : Cell.In (nth m.stack 1) := nth_in hc.stack (by omega)
  by_cases c1 : (Cell.two 23 (nth m.stack 1) (nth m.stack 0)).2 = true
  · exact do_reckon2 (.inr (.inr (.inl rfl))) h.x.cells.1 (Lib.hid ((reckon_two (k := 23) h.x rfl c1 q1 q0).mono fun e w' hx => doing_ok (DoOk.of_x h.mc.mach h.nx h.nt h.nk hx) (by (try simp only [less_length, List.length_cons, List.length_nil]); omega) (by (try simp only [less_length, List.length_cons, List.length_nil]); omega) (by (try simp only [less_length, List.length_cons, List.length_nil]); omega) (by (try simp only [less_length, List.length_cons, List.length_nil]); omega) (by have e := (exec_two m nx g (k := 23) (by decide)).trans (if_pos c1); simp only [less_zero, List.append_nil]; exact e)))
  · exact do_reckon2 (.inr (.inr (.inl rfl))) h.x.cells.1 (Lib.hid ((reckon_zero (k := 23) h.x rfl (by simpa using c1) q1 q0).mono fun e w' hx => doing_err (DoErr.of_x h.mc.mach h.nx hx) (by decide) hc.handler ((exec_two m nx g (k := 23) (by decide)).trans (if_neg c1))))
theorem done_24 (h : Pre w B q ps gs pb gb pf vC vH ch vs vb vm m xb 24 g m.ip nx gt gk [nth m.stack 1, nth m.stack 0] []) (hB : B ≤ w.heap.size) (hr : Right m) (hc : Cells m) (r1 : 2 ≤ m.stack.length) (r2 : 0 ≤ m.back.length) (r3 : m.stack.length - 2 + 1 ≤ 48) (r4 : m.back.length - 0 + 0 ≤ 48)  :
    Calls Tryz.prog 78 #[.pointer (some ⟨q, 0, none⟩), .pointer (some ⟨xb, 0, none⟩)] w (Doing w B q (feet q ps gs pb gb pf vC vH) xb 24 g m.ip (rowV gt 2) (rowV gk 0) 2 0 (exec 24 m nx g)) := by
  have q0 : Cell.In (nth m.stack 0) := nth_in hc.stack (by omega)
  have q1 : Cell.In (nth m.stack 1) := nth_in hc.stack (by omega)
  by_cases c1 : (Cell.two 24 (nth m.stack 1) (nth m.stack 0)).2 = true
  · exact do_reckon2 (.inr (.inr (.inr (.inl rfl)))) h.x.cells.1 (Lib.hid ((reckon_two (k := 24) h.x rfl c1 q1 q0).mono fun e w' hx => doing_ok (DoOk.of_x h.mc.mach h.nx h.nt h.nk hx) (by (try simp only [less_length, List.length_cons, List.length_nil]); omega) (by (try simp only [less_length, List.length_cons, List.length_nil]); omega) (by (try simp only [less_length, List.length_cons, List.length_nil]); omega) (by (try simp only [less_length, List.length_cons, List.length_nil]); omega) (by have e := (exec_two m nx g (k := 24) (by decide)).trans (if_pos c1); simp only [less_zero, List.append_nil]; exact e)))
  · exact do_reckon2 (.inr (.inr (.inr (.inl rfl)))) h.x.cells.1 (Lib.hid ((reckon_zero (k := 24) h.x rfl (by simpa using c1) q1 q0).mono fun e w' hx => doing_err (DoErr.of_x h.mc.mach h.nx hx) (by decide) hc.handler ((exec_two m nx g (k := 24) (by decide)).trans (if_neg c1))))
theorem done_25 (h : Pre w B q ps gs pb gb pf vC vH ch vs vb vm m xb 25 g m.ip nx gt gk [nth m.stack 1, nth m.stack 0] []) (hB : B ≤ w.heap.size) (hr : Right m) (hc : Cells m) (r1 : 2 ≤ m.stack.length) (r2 : 0 ≤ m.back.length) (r3 : m.stack.length - 2 + 1 ≤ 48) (r4 : m.back.length - 0 + 0 ≤ 48)  :
    Calls Tryz.prog 78 #[.pointer (some ⟨q, 0, none⟩), .pointer (some ⟨xb, 0, none⟩)] w (Doing w B q (feet q ps gs pb gb pf vC vH) xb 25 g m.ip (rowV gt 2) (rowV gk 0) 2 0 (exec 25 m nx g)) := by
  have q0 : Cell.In (nth m.stack 0) := nth_in hc.stack (by omega)
  have q1 : Cell.In (nth m.stack 1) := nth_in hc.stack (by omega)
  by_cases c1 : (Cell.two 25 (nth m.stack 1) (nth m.stack 0)).2 = true
  · exact do_reckon2 (.inr (.inr (.inr (.inr (.inl rfl))))) h.x.cells.1 (Lib.hid ((reckon_two (k := 25) h.x rfl c1 q1 q0).mono fun e w' hx => doing_ok (DoOk.of_x h.mc.mach h.nx h.nt h.nk hx) (by (try simp only [less_length, List.length_cons, List.length_nil]); omega) (by (try simp only [less_length, List.length_cons, List.length_nil]); omega) (by (try simp only [less_length, List.length_cons, List.length_nil]); omega) (by (try simp only [less_length, List.length_cons, List.length_nil]); omega) (by have e := (exec_two m nx g (k := 25) (by decide)).trans (if_pos c1); simp only [less_zero, List.append_nil]; exact e)))
  · exact do_reckon2 (.inr (.inr (.inr (.inr (.inl rfl))))) h.x.cells.1 (Lib.hid ((reckon_zero (k := 25) h.x rfl (by simpa using c1) q1 q0).mono fun e w' hx => doing_err (DoErr.of_x h.mc.mach h.nx hx) (by decide) hc.handler ((exec_two m nx g (k := 25) (by decide)).trans (if_neg c1))))
theorem done_28 (h : Pre w B q ps gs pb gb pf vC vH ch vs vb vm m xb 28 g m.ip nx gt gk [nth m.stack 1, nth m.stack 0] []) (hB : B ≤ w.heap.size) (hr : Right m) (hc : Cells m) (r1 : 2 ≤ m.stack.length) (r2 : 0 ≤ m.back.length) (r3 : m.stack.length - 2 + 1 ≤ 48) (r4 : m.back.length - 0 + 0 ≤ 48)  :
    Calls Tryz.prog 78 #[.pointer (some ⟨q, 0, none⟩), .pointer (some ⟨xb, 0, none⟩)] w (Doing w B q (feet q ps gs pb gb pf vC vH) xb 28 g m.ip (rowV gt 2) (rowV gk 0) 2 0 (exec 28 m nx g)) := by
  have q0 : Cell.In (nth m.stack 0) := nth_in hc.stack (by omega)
  have q1 : Cell.In (nth m.stack 1) := nth_in hc.stack (by omega)
  by_cases c1 : (Cell.two 28 (nth m.stack 1) (nth m.stack 0)).2 = true
  · exact do_reckon2 (.inr (.inr (.inr (.inr (.inr (.inr (.inr (.inl rfl)))))))) h.x.cells.1 (Lib.hid ((reckon_two (k := 28) h.x rfl c1 q1 q0).mono fun e w' hx => doing_ok (DoOk.of_x h.mc.mach h.nx h.nt h.nk hx) (by (try simp only [less_length, List.length_cons, List.length_nil]); omega) (by (try simp only [less_length, List.length_cons, List.length_nil]); omega) (by (try simp only [less_length, List.length_cons, List.length_nil]); omega) (by (try simp only [less_length, List.length_cons, List.length_nil]); omega) (by have e := (exec_two m nx g (k := 28) (by decide)).trans (if_pos c1); simp only [less_zero, List.append_nil]; exact e)))
  · exact do_reckon2 (.inr (.inr (.inr (.inr (.inr (.inr (.inr (.inl rfl)))))))) h.x.cells.1 (Lib.hid ((reckon_zero (k := 28) h.x rfl (by simpa using c1) q1 q0).mono fun e w' hx => doing_err (DoErr.of_x h.mc.mach h.nx hx) (by decide) hc.handler ((exec_two m nx g (k := 28) (by decide)).trans (if_neg c1))))
theorem done_29 (h : Pre w B q ps gs pb gb pf vC vH ch vs vb vm m xb 29 g m.ip nx gt gk [nth m.stack 1, nth m.stack 0] []) (hB : B ≤ w.heap.size) (hr : Right m) (hc : Cells m) (r1 : 2 ≤ m.stack.length) (r2 : 0 ≤ m.back.length) (r3 : m.stack.length - 2 + 1 ≤ 48) (r4 : m.back.length - 0 + 0 ≤ 48)  :
    Calls Tryz.prog 78 #[.pointer (some ⟨q, 0, none⟩), .pointer (some ⟨xb, 0, none⟩)] w (Doing w B q (feet q ps gs pb gb pf vC vH) xb 29 g m.ip (rowV gt 2) (rowV gk 0) 2 0 (exec 29 m nx g)) := by
  have q0 : Cell.In (nth m.stack 0) := nth_in hc.stack (by omega)
  have q1 : Cell.In (nth m.stack 1) := nth_in hc.stack (by omega)
  by_cases c1 : (Cell.two 29 (nth m.stack 1) (nth m.stack 0)).2 = true
  · exact do_reckon2 (.inr (.inr (.inr (.inr (.inr (.inr (.inr (.inr rfl)))))))) h.x.cells.1 (Lib.hid ((reckon_two (k := 29) h.x rfl c1 q1 q0).mono fun e w' hx => doing_ok (DoOk.of_x h.mc.mach h.nx h.nt h.nk hx) (by (try simp only [less_length, List.length_cons, List.length_nil]); omega) (by (try simp only [less_length, List.length_cons, List.length_nil]); omega) (by (try simp only [less_length, List.length_cons, List.length_nil]); omega) (by (try simp only [less_length, List.length_cons, List.length_nil]); omega) (by have e := (exec_two m nx g (k := 29) (by decide)).trans (if_pos c1); simp only [less_zero, List.append_nil]; exact e)))
  · exact do_reckon2 (.inr (.inr (.inr (.inr (.inr (.inr (.inr (.inr rfl)))))))) h.x.cells.1 (Lib.hid ((reckon_zero (k := 29) h.x rfl (by simpa using c1) q1 q0).mono fun e w' hx => doing_err (DoErr.of_x h.mc.mach h.nx hx) (by decide) hc.handler ((exec_two m nx g (k := 29) (by decide)).trans (if_neg c1))))
theorem done_30 (h : Pre w B q ps gs pb gb pf vC vH ch vs vb vm m xb 30 g m.ip nx gt gk [nth m.stack 0] []) (hB : B ≤ w.heap.size) (hr : Right m) (hc : Cells m) (r1 : 1 ≤ m.stack.length) (r2 : 0 ≤ m.back.length) (r3 : m.stack.length - 1 + 1 ≤ 48) (r4 : m.back.length - 0 + 0 ≤ 48)  :
    Calls Tryz.prog 78 #[.pointer (some ⟨q, 0, none⟩), .pointer (some ⟨xb, 0, none⟩)] w (Doing w B q (feet q ps gs pb gb pf vC vH) xb 30 g m.ip (rowV gt 1) (rowV gk 0) 1 0 (exec 30 m nx g)) := by
  by_cases c1 : 0 ≤ nth m.stack 0 ∧ nth m.stack 0 < (m.mem.length : Int)
  · have c2 : ¬ (nth m.stack 0 < 0 ∨ (m.mem.length : Int) ≤ nth m.stack 0) := by omega
    have hl : (nth m.stack 0).toNat < m.mem.length := by omega
    obtain ⟨x, hx⟩ : ∃ x, m.mem[(nth m.stack 0).toNat]? = some x := ⟨_, List.getElem?_eq_getElem hl⟩
    have hgd : m.mem.getD (nth m.stack 0).toNat 0 = x := by rw [List.getD_eq_getElem?_getD, hx]; rfl
    exact do_rem (.inl rfl) h.x.cells.1 (Lib.hid ((rem_fetch h hB (nth m.stack 0).toNat (by omega) hx).mono fun e w' hx => doing_ok (hx) (by (try simp only [less_length, List.length_cons, List.length_nil]); omega) (by (try simp only [less_length, List.length_cons, List.length_nil]); omega) (by (try simp only [less_length, List.length_cons, List.length_nil]); omega) (by (try simp only [less_length, List.length_cons, List.length_nil]); omega) (by simp only [less_zero, List.append_nil]; show (if _ then _ else _) = _; rw [if_neg c2, hgd])))
  · exact do_rem (.inl rfl) h.x.cells.1 (Lib.hid ((rem_fetch_no h hB c1).mono fun e w' hx => doing_err (hx) (by decide) hc.handler (by show (if _ then _ else _) = _; rw [if_pos (by omega)])))
theorem done_31 (h : Pre w B q ps gs pb gb pf vC vH ch vs vb vm m xb 31 g m.ip nx gt gk [nth m.stack 1, nth m.stack 0] []) (hB : B ≤ w.heap.size) (hr : Right m) (hc : Cells m) (r1 : 2 ≤ m.stack.length) (r2 : 0 ≤ m.back.length) (r3 : m.stack.length - 2 + 0 ≤ 48) (r4 : m.back.length - 0 + 0 ≤ 48)  :
    Calls Tryz.prog 78 #[.pointer (some ⟨q, 0, none⟩), .pointer (some ⟨xb, 0, none⟩)] w (Doing w B q (feet q ps gs pb gb pf vC vH) xb 31 g m.ip (rowV gt 2) (rowV gk 0) 2 0 (exec 31 m nx g)) := by
  by_cases c1 : 0 ≤ nth m.stack 0 ∧ nth m.stack 0 < (m.mem.length : Int)
  · have c2 : ¬ (nth m.stack 0 < 0 ∨ (m.mem.length : Int) ≤ nth m.stack 0) := by omega
    have hl : (nth m.stack 0).toNat < m.mem.length := by omega
    obtain ⟨x, hx⟩ : ∃ x, m.mem[(nth m.stack 0).toNat]? = some x := ⟨_, List.getElem?_eq_getElem hl⟩
    have hgd : m.mem.getD (nth m.stack 0).toNat 0 = x := by rw [List.getD_eq_getElem?_getD, hx]; rfl
    exact do_rem (.inr (.inl rfl)) h.x.cells.1 (Lib.hid ((rem_store h hB (nth m.stack 0).toNat (by omega) hx).mono fun e w' hx => doing_ok (hx) (by (try simp only [less_length, List.length_cons, List.length_nil]); omega) (by (try simp only [less_length, List.length_cons, List.length_nil]); omega) (by (try simp only [less_length, List.length_cons, List.length_nil]); omega) (by (try simp only [less_length, List.length_cons, List.length_nil]); omega) (by simp only [less_zero, List.append_nil]; show (if _ then _ else _) = _; rw [if_neg c2])))
  · exact do_rem (.inr (.inl rfl)) h.x.cells.1 (Lib.hid ((rem_store_no h hB c1).mono fun e w' hx => doing_err (hx) (by decide) hc.handler (by show (if _ then _ else _) = _; rw [if_pos (by omega)])))
theorem done_32 (h : Pre w B q ps gs pb gb pf vC vH ch vs vb vm m xb 32 g m.ip nx gt gk [nth m.stack 1, nth m.stack 0] []) (hB : B ≤ w.heap.size) (hr : Right m) (hc : Cells m) (r1 : 2 ≤ m.stack.length) (r2 : 0 ≤ m.back.length) (r3 : m.stack.length - 2 + 0 ≤ 48) (r4 : m.back.length - 0 + 0 ≤ 48)  :
    Calls Tryz.prog 78 #[.pointer (some ⟨q, 0, none⟩), .pointer (some ⟨xb, 0, none⟩)] w (Doing w B q (feet q ps gs pb gb pf vC vH) xb 32 g m.ip (rowV gt 2) (rowV gk 0) 2 0 (exec 32 m nx g)) := by
  by_cases c1 : 0 ≤ nth m.stack 0 ∧ nth m.stack 0 < (m.mem.length : Int)
  · have c2 : ¬ (nth m.stack 0 < 0 ∨ (m.mem.length : Int) ≤ nth m.stack 0) := by omega
    have hl : (nth m.stack 0).toNat < m.mem.length := by omega
    obtain ⟨x, hx⟩ : ∃ x, m.mem[(nth m.stack 0).toNat]? = some x := ⟨_, List.getElem?_eq_getElem hl⟩
    have hgd : m.mem.getD (nth m.stack 0).toNat 0 = x := by rw [List.getD_eq_getElem?_getD, hx]; rfl
    exact do_rem (.inr (.inr rfl)) h.x.cells.1 (Lib.hid ((rem_addTo h hB (nth m.stack 0).toNat (by omega) hx).mono fun e w' hx => doing_ok (hx) (by (try simp only [less_length, List.length_cons, List.length_nil]); omega) (by (try simp only [less_length, List.length_cons, List.length_nil]); omega) (by (try simp only [less_length, List.length_cons, List.length_nil]); omega) (by (try simp only [less_length, List.length_cons, List.length_nil]); omega) (by simp only [less_zero, List.append_nil]; show (if _ then _ else _) = _; rw [if_neg c2, hgd, Int.add_comm x (nth m.stack 1)])))
  · exact do_rem (.inr (.inr rfl)) h.x.cells.1 (Lib.hid ((rem_addTo_no h hB c1).mono fun e w' hx => doing_err (hx) (by decide) hc.handler (by show (if _ then _ else _) = _; rw [if_pos (by omega)])))
theorem done_37 (h : Pre w B q ps gs pb gb pf vC vH ch vs vb vm m xb 37 g m.ip nx gt gk [] [nth m.back 1, nth m.back 0]) (hB : B ≤ w.heap.size) (hr : Right m) (hc : Cells m) (r1 : 0 ≤ m.stack.length) (r2 : 2 ≤ m.back.length) (r3 : m.stack.length - 0 + 0 ≤ 48) (r4 : m.back.length - 2 + 2 ≤ 48)  :
    Calls Tryz.prog 78 #[.pointer (some ⟨q, 0, none⟩), .pointer (some ⟨xb, 0, none⟩)] w (Doing w B q (feet q ps gs pb gb pf vC vH) xb 37 g m.ip (rowV gt 0) (rowV gk 2) 0 2 (exec 37 m nx g)) := by
  have q0 : Cell.In (nth m.back 0) := nth_in hc.back (by omega)
  have q1 : Cell.In (nth m.back 1) := nth_in hc.back (by omega)
  have hl := loops1 q0 q1
  by_cases c1 : wrap64 (nth m.back 0 + 1) = nth m.back 1
  · exact do_turn (.inr (.inr (.inr (.inl rfl)))) h.x.cells.1 (Lib.hid ((turn_loop_ends h.x (by rw [hl]; exact decide_eq_true c1)).mono fun e w' hx => ⟨hx.said, (doing_ok (a := 0) (b := 2) (mE := exec 37 m nx g) (DoOk.of_x h.mc.mach h.nx h.nt h.nk hx.swap) (by (try simp only [less_length, List.length_cons, List.length_nil]); omega) (by (try simp only [less_length, List.length_cons, List.length_nil]); omega) (by (try simp only [less_length, List.length_cons, List.length_nil]); omega) (by (try simp only [less_length, List.length_cons, List.length_nil]); omega) (by simp only [less_zero, List.append_nil]; show (if _ then _ else _) = _; rw [if_pos c1])).elim fun v hv => by have := hv.1; cases this; exact hv.2.2⟩))
  · exact do_turn (.inr (.inr (.inr (.inl rfl)))) h.x.cells.1 (Lib.hid ((turn_loop_on h.x (by rw [hl]; exact decide_eq_false c1)).mono fun e w' hx => ⟨hx.said, (doing_ok (a := 0) (b := 2) (mE := exec 37 m nx g) (DoOk.of_x h.mc.mach h.nx h.nt h.nk hx.swap) (by (try simp only [less_length, List.length_cons, List.length_nil]); omega) (by (try simp only [less_length, List.length_cons, List.length_nil]); omega) (by (try simp only [less_length, List.length_cons, List.length_nil]); omega) (by (try simp only [less_length, List.length_cons, List.length_nil]); omega) (by simp only [less_zero, List.append_nil, less_two' r2]; show (if _ then _ else _) = _; rw [if_neg c1])).elim fun v hv => by have := hv.1; cases this; exact hv.2.2⟩))
theorem done_38 (h : Pre w B q ps gs pb gb pf vC vH ch vs vb vm m xb 38 g m.ip nx gt gk [nth m.stack 0] [nth m.back 1, nth m.back 0]) (hB : B ≤ w.heap.size) (hr : Right m) (hc : Cells m) (r1 : 1 ≤ m.stack.length) (r2 : 2 ≤ m.back.length) (r3 : m.stack.length - 1 + 0 ≤ 48) (r4 : m.back.length - 2 + 2 ≤ 48)  :
    Calls Tryz.prog 78 #[.pointer (some ⟨q, 0, none⟩), .pointer (some ⟨xb, 0, none⟩)] w (Doing w B q (feet q ps gs pb gb pf vC vH) xb 38 g m.ip (rowV gt 1) (rowV gk 2) 1 2 (exec 38 m nx g)) := by
  by_cases c1 : Cell.crosses (wrap64 (nth m.back 0 - nth m.back 1)) (nth m.stack 0) = true
  · exact do_turn (.inr (.inr (.inr (.inr rfl)))) h.x.cells.1 (Lib.hid ((turn_plus_ends h.x c1).mono fun e w' hx => ⟨hx.said, (doing_ok (a := 1) (b := 2) (mE := exec 38 m nx g) (DoOk.of_x h.mc.mach h.nx h.nt h.nk hx.swap) (by (try simp only [less_length, List.length_cons, List.length_nil]); omega) (by (try simp only [less_length, List.length_cons, List.length_nil]); omega) (by (try simp only [less_length, List.length_cons, List.length_nil]); omega) (by (try simp only [less_length, List.length_cons, List.length_nil]); omega) (by simp only [less_zero, List.append_nil]; show (if _ then _ else _) = _; rw [if_pos c1])).elim fun v hv => by have := hv.1; cases this; exact hv.2.2⟩))
  · exact do_turn (.inr (.inr (.inr (.inr rfl)))) h.x.cells.1 (Lib.hid ((turn_plus_on h.x (by simpa using c1)).mono fun e w' hx => ⟨hx.said, (doing_ok (a := 1) (b := 2) (mE := exec 38 m nx g) (DoOk.of_x h.mc.mach h.nx h.nt h.nk hx.swap) (by (try simp only [less_length, List.length_cons, List.length_nil]); omega) (by (try simp only [less_length, List.length_cons, List.length_nil]); omega) (by (try simp only [less_length, List.length_cons, List.length_nil]); omega) (by (try simp only [less_length, List.length_cons, List.length_nil]); omega) (by simp only [less_zero, List.append_nil, less_two' r2]; show (if _ then _ else _) = _; rw [if_neg c1])).elim fun v hv => by have := hv.1; cases this; exact hv.2.2⟩))
theorem done_41 (h : Pre w B q ps gs pb gb pf vC vH ch vs vb vm m xb 41 g m.ip nx gt gk [nth m.stack 0] []) (hB : B ≤ w.heap.size) (hr : Right m) (hc : Cells m) (r1 : 1 ≤ m.stack.length) (r2 : 0 ≤ m.back.length) (r3 : m.stack.length - 1 + 0 ≤ 48) (r4 : m.back.length - 0 + 0 ≤ 48)  :
    Calls Tryz.prog 78 #[.pointer (some ⟨q, 0, none⟩), .pointer (some ⟨xb, 0, none⟩)] w (Doing w B q (feet q ps gs pb gb pf vC vH) xb 41 g m.ip (rowV gt 1) (rowV gk 0) 1 0 (exec 41 m nx g)) := by
  have ip : Cell.In (nth m.stack 0) := nth_in hc.stack (by omega)
  by_cases c1 : 2000 < m.out.size + 1
  · exact do_say (.inl rfl) h.x.cells.1 (Lib.hid ((say_full h hB ip c1 hr.out).mono fun e w' hx => doing_err (hx) (by decide) hc.handler (by show (if _ then _ else _) = _; rw [if_pos c1])))
  · exact do_say (.inl rfl) h.x.cells.1 (Lib.hid ((say_byte h hB ip (by omega)).mono fun e w' hx => doing_ok (hx) (by (try simp only [less_length, List.length_cons, List.length_nil]); omega) (by (try simp only [less_length, List.length_cons, List.length_nil]); omega) (by (try simp only [less_length, List.length_cons, List.length_nil]); omega) (by (try simp only [less_length, List.length_cons, List.length_nil]); omega) (by simp only [less_zero, List.append_nil]; show (if _ then _ else _) = _; rw [if_neg c1])))
theorem done_42 (h : Pre w B q ps gs pb gb pf vC vH ch vs vb vm m xb 42 g m.ip nx gt gk [nth m.stack 0] []) (hB : B ≤ w.heap.size) (hr : Right m) (hc : Cells m) (r1 : 1 ≤ m.stack.length) (r2 : 0 ≤ m.back.length) (r3 : m.stack.length - 1 + 0 ≤ 48) (r4 : m.back.length - 0 + 0 ≤ 48) (hZ : Zeros w) (hT : Tens w) :
    Calls Tryz.prog 78 #[.pointer (some ⟨q, 0, none⟩), .pointer (some ⟨xb, 0, none⟩)] w (Doing w B q (feet q ps gs pb gb pf vC vH) xb 42 g m.ip (rowV gt 1) (rowV gk 0) 1 0 (exec 42 m nx g)) := by
  have ip : Cell.In (nth m.stack 0) := nth_in hc.stack (by omega)
  by_cases c1 : 2000 < m.out.size + ((Lib.itoa (nth m.stack 0)).length + 1)
  · exact do_say (.inr rfl) h.x.cells.1 (Lib.hid ((say_much h hB hZ hT ip c1 hr.out).mono fun e w' hx => doing_err (hx) (by decide) hc.handler (by show (if _ then _ else _) = _; rw [if_pos c1])))
  · exact do_say (.inr rfl) h.x.cells.1 (Lib.hid ((say_num h hB hZ hT ip (by omega)).mono fun e w' hx => doing_ok (hx) (by (try simp only [less_length, List.length_cons, List.length_nil]); omega) (by (try simp only [less_length, List.length_cons, List.length_nil]); omega) (by (try simp only [less_length, List.length_cons, List.length_nil]); omega) (by (try simp only [less_length, List.length_cons, List.length_nil]); omega) (by simp only [less_zero, List.append_nil]; show (if _ then _ else _) = _; rw [if_neg c1])))
theorem done_43 (h : Pre w B q ps gs pb gb pf vC vH ch vs vb vm m xb 43 g m.ip nx gt gk [] []) (hB : B ≤ w.heap.size) (hr : Right m) (hc : Cells m) (r1 : 0 ≤ m.stack.length) (r2 : 0 ≤ m.back.length) (r3 : m.stack.length - 0 + 1 ≤ 48) (r4 : m.back.length - 0 + 0 ≤ 48) (hin : m.inp.size ≤ maxLen) :
    Calls Tryz.prog 78 #[.pointer (some ⟨q, 0, none⟩), .pointer (some ⟨xb, 0, none⟩)] w (Doing w B q (feet q ps gs pb gb pf vC vH) xb 43 g m.ip (rowV gt 0) (rowV gk 0) 0 0 (exec 43 m nx g)) := by
  by_cases c1 : m.read < (m.inp.size : Int)
  · exact do_ask rfl h.x.cells.1 (Lib.hid ((ask_yes h hB hr.read0 c1 hin).mono fun e w' hx => ⟨hx.said, (doing_ok (a := 0) (b := 0) (mE := exec 43 m nx g) hx.swap (by (try simp only [less_length, List.length_cons, List.length_nil]); omega) (by (try simp only [less_length, List.length_cons, List.length_nil]); omega) (by (try simp only [less_length, List.length_cons, List.length_nil]); omega) (by (try simp only [less_length, List.length_cons, List.length_nil]); omega) (by simp only [less_zero, List.append_nil]; show (if _ then _ else _) = _; rw [if_pos c1])).elim fun v hv => by have := hv.1; cases this; exact hv.2.2⟩))
  · exact do_ask rfl h.x.cells.1 (Lib.hid ((ask_no h hB hr.read0 c1).mono fun e w' hx => ⟨hx.said, (doing_ok (a := 0) (b := 0) (mE := exec 43 m nx g) hx.swap (by (try simp only [less_length, List.length_cons, List.length_nil]); omega) (by (try simp only [less_length, List.length_cons, List.length_nil]); omega) (by (try simp only [less_length, List.length_cons, List.length_nil]); omega) (by (try simp only [less_length, List.length_cons, List.length_nil]); omega) (by simp only [less_zero, List.append_nil]; show (if _ then _ else _) = _; rw [if_neg c1])).elim fun v hv => by have := hv.1; cases this; exact hv.2.2⟩))
theorem done_44 (h : Pre w B q ps gs pb gb pf vC vH ch vs vb vm m xb 44 g m.ip nx gt gk [nth m.stack 0] []) (hB : B ≤ w.heap.size) (hr : Right m) (hc : Cells m) (r1 : 1 ≤ m.stack.length) (r2 : 0 ≤ m.back.length) (r3 : m.stack.length - 1 + 0 ≤ 48) (r4 : m.back.length - 0 + 1 ≤ 48)  :
    Calls Tryz.prog 78 #[.pointer (some ⟨q, 0, none⟩), .pointer (some ⟨xb, 0, none⟩)] w (Doing w B q (feet q ps gs pb gb pf vC vH) xb 44 g m.ip (rowV gt 1) (rowV gk 0) 1 0 (exec 44 m nx g)) := by
  by_cases c1 : nth m.stack 0 < 64
  · exact do_ctl (.inr (.inl rfl)) h.x.cells.1 (Lib.hid ((ctl_exec_low h hB c1).mono fun e w' hx => doing_err (hx) (by decide) hc.handler (by show (if _ then _ else _) = _; rw [if_pos (.inl c1)])))
  by_cases c2 : (m.mem.length : Int) ≤ nth m.stack 0
  · exact do_ctl (.inr (.inl rfl)) h.x.cells.1 (Lib.hid ((ctl_exec_high h hB (by omega) c2).mono fun e w' hx => doing_err (hx) (by decide) hc.handler (by show (if _ then _ else _) = _; rw [if_pos (.inr c2)])))
  · exact do_ctl (.inr (.inl rfl)) h.x.cells.1 (Lib.hid ((ctl_exec h hB (by omega) (by omega)).mono fun e w' hx => doing_ok (hx) (by (try simp only [less_length, List.length_cons, List.length_nil]); omega) (by (try simp only [less_length, List.length_cons, List.length_nil]); omega) (by (try simp only [less_length, List.length_cons, List.length_nil]); omega) (by (try simp only [less_length, List.length_cons, List.length_nil]); omega) (by simp only [less_zero, List.append_nil]; show (if _ then _ else _) = _; rw [if_neg (by omega)])))
theorem done_45 (h : Pre w B q ps gs pb gb pf vC vH ch vs vb vm m xb 45 g m.ip nx gt gk [nth m.stack 0] []) (hB : B ≤ w.heap.size) (hr : Right m) (hc : Cells m) (r1 : 1 ≤ m.stack.length) (r2 : 0 ≤ m.back.length) (r3 : m.stack.length - 1 + 0 ≤ 48) (r4 : m.back.length - 0 + 0 ≤ 48)  :
    Calls Tryz.prog 78 #[.pointer (some ⟨q, 0, none⟩), .pointer (some ⟨xb, 0, none⟩)] w (Doing w B q (feet q ps gs pb gb pf vC vH) xb 45 g m.ip (rowV gt 1) (rowV gk 0) 1 0 (exec 45 m nx g)) := by
  by_cases c1 : nth m.stack 0 = 0
  · exact do_ctl (.inr (.inr (.inl rfl))) h.x.cells.1 (Lib.hid ((ctl_throw_zero h hB c1).mono fun e w' hx => doing_ok (hx) (by (try simp only [less_length, List.length_cons, List.length_nil]); omega) (by (try simp only [less_length, List.length_cons, List.length_nil]); omega) (by (try simp only [less_length, List.length_cons, List.length_nil]); omega) (by (try simp only [less_length, List.length_cons, List.length_nil]); omega) (by simp only [less_zero, List.append_nil]; show (if _ then _ else _) = _; rw [if_pos c1])))
  · exact do_ctl (.inr (.inr (.inl rfl))) h.x.cells.1 (Lib.hid ((ctl_throw_some h hB c1 (by omega)).mono fun e w' hx => doing_err (hx) (by simpa using c1) hc.handler (by show (if _ then _ else _) = _; rw [if_neg c1])))
theorem done_46 (h : Pre w B q ps gs pb gb pf vC vH ch vs vb vm m xb 46 g m.ip nx gt gk [nth m.stack 0] []) (hB : B ≤ w.heap.size) (hr : Right m) (hc : Cells m) (r1 : 1 ≤ m.stack.length) (r2 : 0 ≤ m.back.length) (r3 : m.stack.length - 1 + 0 ≤ 48) (r4 : m.back.length - 0 + 4 ≤ 48)  :
    Calls Tryz.prog 78 #[.pointer (some ⟨q, 0, none⟩), .pointer (some ⟨xb, 0, none⟩)] w (Doing w B q (feet q ps gs pb gb pf vC vH) xb 46 g m.ip (rowV gt 1) (rowV gk 0) 1 0 (exec 46 m nx g)) := by
  have e1 : ((less m.stack 1).length : Int) = (m.stack.length : Int) - 1 := by rw [less_length]; omega
  exact do_ctl (.inr (.inr (.inr (.inl rfl)))) h.x.cells.1 (Lib.hid ((ctl_catch h hB (by omega)).mono fun e w' hx => doing_ok (hx) (by (try simp only [less_length, List.length_cons, List.length_nil]); omega) (by (try simp only [less_length, List.length_cons, List.length_nil]); omega) (by (try simp only [less_length, List.length_cons, List.length_nil]); omega) (by (try simp only [less_length, List.length_cons, List.length_nil]); omega) (by simp only [less_zero, List.append_nil]; rw [← e1]; rfl)))
end
end Go.Proofs.YtlomfmilohbgpaaGreatDoor.Inn
/- The table of the operations' names, a package variable: what it holds, that it stays, and a world in which it is laid. -/
namespace Go.Proofs.YtlomfmilohbgpaaGreatDoor
open Go.RowKit
set_option linter.unusedVariables false
set_option linter.unusedSimpArgs false
/-- an array of strings that reads as these holds them, cell for cell -/
theorem cells_of_strs {H : Type} {enc : TypeId × Value → H} {P : Program} {w : World} {base : Nat} {sp : Nat → Bool} {held : Bool} {fuel : Nat} {t e : TypeId} {n : Nat} {cs : List Value} {zs : List ByteArray} {p : List MemPlace}
    (ht : P.underlying t = some (.array n e)) (he : P.underlying e = some .string) (hce : P.cellsOf e = 1) (hct : P.cellsOf t = n)
    (h : DataW.trod enc P w base sp held fuel t cs = some (.agg (zs.map fun z => .lit (.string z.data.toList)), p)) : cs = zs.map Value.string := by
  cases fuel with
  | zero => simp [DataW.trod] at h
  | succ fuel =>
    simp only [DataW.trod, ht, hce, hct, Nat.mul_one] at h
    split at h
    · rename_i hl
      obtain ⟨xs, hm, hx⟩ := Option.map_eq_some_iff.1 h
      have hxs : xs.map (·.1) = zs.map fun z => (DataW.lit (.string z.data.toList) : DataW H) := by
        have := congrArg Prod.fst hx
        simpa using this
      have hxl : xs.length = n := by simpa using Lib.mapM_length hm
      have hzl : zs.length = n := by
        have := congrArg List.length hxs
        simp at this
        omega
      apply List.ext_getElem?
      intro i
      by_cases hi : i < n
      · obtain ⟨b, hb, hf⟩ := Lib.mapM_at hm i i (by simp [hi])
        obtain ⟨z, hc, rfl, _⟩ := DataW.trod_string he hf
        have h1 : cs[i]? = some (.string z) := by
          have := congrArg (·[0]?) hc
          simpa [List.getElem?_take, List.getElem?_drop] using this
        have h2 : (xs.map (·.1))[i]? = some (DataW.lit (.string z.data.toList) : DataW H) := by simp [hb]
        rw [hxs] at h2
        simp only [List.getElem?_map, Option.map_eq_some_iff, DataW.lit.injEq, Lit.string.injEq] at h2
        obtain ⟨z', hz', he'⟩ := h2
        obtain rfl : z' = z := by
          apply ByteArray.ext
          exact Array.toList_inj.1 he'
        simp [h1, hz']
      · rw [List.getElem?_eq_none (by omega), List.getElem?_eq_none (by simp; omega)]
    · cases h
theorem gn : Tryz.prog.globalNamed "holloway/op.names" = some 0 := by kernel_rfl
/-- the table holds the names -/
def NamesIs (W : World) : Prop := W.var? Tryz.prog "holloway/op.names" = some (opNames.map Value.string).toArray
theorem NamesIs.mono {w w' : World} (h : NamesIs w) (hb : Below w.heap.size w w') : NamesIs w' := by
  unfold NamesIs World.var? at *
  rw [gn, Option.bind_some] at h ⊢
  have hl : 0 < w.heap.size := by
    rcases Nat.lt_or_ge 0 w.heap.size with h0 | h0
    · exact h0
    · rw [Array.getElem?_eq_none h0] at h; cases h
  rw [hb.block _ hl]; exact h
theorem NamesIs.cell {W : World} (h : NamesIs W) {k : Nat} (hk : k < 48) : W.cell? ⟨0, k, none⟩ = some (.string (nameOf k)) := by
  have := World.var?_cell gn h k
  rw [this, List.getElem?_toArray, List.getElem?_map, nameOf, List.getD_eq_getElem?_getD, List.getElem?_eq_getElem (by rw [opNames_length]; exact hk)]
  rfl
theorem vars_mem {P : Program} {W : World} : ∀ {l : List (String × DataW Unit)} {ps : List MemPlace}, DataW.LaidVars P W l ps → ∀ {n d}, (n, d) ∈ l → ∃ g t cs fuel p, P.globalNamed n = some g ∧ (P.globals[g]?).map (·.type) = some t ∧ W.var? P n = some cs ∧ DataW.trod (fun _ => ()) P W 0 (fun _ => true) false fuel t cs.toList = some (d, p)
  | [], _, _, _, _, hm => by cases hm
  | (n0, d0) :: r, ps, ⟨g, t, cs, fuel, p, q, h1, h2, h3, h4, h5, h6⟩, n, d, hm => by
    rcases List.mem_cons.1 hm with e | hm
    · obtain ⟨rfl, rfl⟩ := Prod.mk.inj e
      exact ⟨g, t, cs, fuel, p, h1, h2, h3, h4⟩
    · exact vars_mem h5 hm
abbrev laidL : List (String × DataW Unit) := [("holloway/op.names", Rows.laid_holloway_op_names)]
theorem names_of {W : World} (h : laidMetH Tryz.prog laidL W) : NamesIs W := by
  have h : laidMet Tryz.prog laidL W := h
  obtain ⟨ps, hv, _⟩ := h
  obtain ⟨g, t, cs, fuel, p, h1, h2, h3, h4⟩ := vars_mem hv (n := "holloway/op.names") (d := .agg (opNames.map fun z => .lit (.string z.data.toList))) (by rw [← show Rows.laid_holloway_op_names (H := Unit) = .agg (opNames.map fun z => .lit (.string z.data.toList)) from by kernel_rfl]; exact .head _)
  obtain rfl := Option.some.inj (gn.symm.trans h1)
  have ht : (Tryz.prog.globals[0]?).map (·.type) = some 122 := by kernel_rfl
  obtain rfl := Option.some.inj (ht.symm.trans h2)
  unfold NamesIs
  rw [h3, ← cells_of_strs Tryz.underlying122 Tryz.underlying9 (by kernel_rfl) (by kernel_rfl) h4]
def layAt (g : Nat) (cs : Array Value) (h : Array Obj) : Array Obj := h.modify g fun
  | .cells _ t frozen => .cells cs t frozen
  | o => o
noncomputable def laidWorld (os : Os) : World :=
  let w0 := World.holding Tryz.prog os ⟨#[], #[], []⟩
  { w0 with heap := layAt 0 (opNames.map Value.string).toArray w0.heap }
theorem laidWorld_met (os : Os) (args : Array Value) : laidMetH Tryz.prog laidL ((laidWorld os).forCall (fun _ _ => 0) ⟨#[], args, []⟩).memory :=
  laidMet_of_run' 8 (by kernel_rfl) (by kernel_rfl)
end Go.Proofs.YtlomfmilohbgpaaGreatDoor
/- Package op: fromBack of every number. -/
namespace Go.Proofs.YtlomfmilohbgpaaGreatDoor
open Go.RowKit
set_option linter.unusedSimpArgs false
set_option linter.unusedVariables false
set_option maxHeartbeats 16000000 in
theorem fromBack_at (k : Nat) (hk : k < 48) (w : World) : Calls Tryz.prog 86 #[.int .i64 k] w fun e w' => e = .returned (.int .i64 (movesOf k).2.1) ∧ w' = w := by
  rcases (by omega : k = 0 ∨ k = 1 ∨ k = 2 ∨ k = 3 ∨ k = 4 ∨ k = 5 ∨ k = 6 ∨ k = 7 ∨ k = 8 ∨ k = 9 ∨ k = 10 ∨ k = 11 ∨ k = 12 ∨ k = 13 ∨ k = 14 ∨ k = 15 ∨ k = 16 ∨ k = 17 ∨ k = 18 ∨ k = 19 ∨ k = 20 ∨ k = 21 ∨ k = 22 ∨ k = 23 ∨ k = 24 ∨ k = 25 ∨ k = 26 ∨ k = 27 ∨ k = 28 ∨ k = 29 ∨ k = 30 ∨ k = 31 ∨ k = 32 ∨ k = 33 ∨ k = 34 ∨ k = 35 ∨ k = 36 ∨ k = 37 ∨ k = 38 ∨ k = 39 ∨ k = 40 ∨ k = 41 ∨ k = 42 ∨ k = 43 ∨ k = 44 ∨ k = 45 ∨ k = 46 ∨ k = 47) with rfl | rfl | rfl | rfl | rfl | rfl | rfl | rfl | rfl | rfl | rfl | rfl | rfl | rfl | rfl | rfl | rfl | rfl | rfl | rfl | rfl | rfl | rfl | rfl | rfl | rfl | rfl | rfl | rfl | rfl | rfl | rfl | rfl | rfl | rfl | rfl | rfl | rfl | rfl | rfl | rfl | rfl | rfl | rfl | rfl | rfl | rfl | rfl
  all_goals
    go_enter Tryz.func86, Tryz.ntmps86
    go_wp2
    go_ret
    exact ⟨rfl, rfl⟩
set_option maxHeartbeats 8000000 in
theorem fromBack_out (a : Int) (ha : ¬ isOp a) (w : World) : Calls Tryz.prog 86 #[.int .i64 a] w fun e w' => e = .returned (.int .i64 0) ∧ w' = w := by
  rcases (by omega : a < 0 ∨ 48 ≤ a) with h | h
  all_goals
    clear ha
    go_enter Tryz.func86, Tryz.ntmps86
    go_wp2
    go_ret
    exact ⟨rfl, rfl⟩
theorem fromBack_any (a : Int) (w : World) : Calls Tryz.prog 86 #[.int .i64 a] w fun e w' => e = .returned (.int .i64 (movesI a).2.1) ∧ w' = w := by
  by_cases h : isOp a
  · obtain ⟨k, hk, rfl⟩ := nat_of_op h
    rw [show movesI (k : Int) = movesOf k by unfold movesI; rw [if_pos h]; rfl]
    exact fromBack_at k hk w
  · rw [show movesI a = (0, 0, 0, 0) by unfold movesI; rw [if_neg h]]
    exact fromBack_out a h w
end Go.Proofs.YtlomfmilohbgpaaGreatDoor
/- Package op: toBack of every number. -/
namespace Go.Proofs.YtlomfmilohbgpaaGreatDoor
open Go.RowKit
set_option linter.unusedSimpArgs false
set_option linter.unusedVariables false
set_option maxHeartbeats 16000000 in
theorem toBack_at (k : Nat) (hk : k < 48) (w : World) : Calls Tryz.prog 100 #[.int .i64 k] w fun e w' => e = .returned (.int .i64 (movesOf k).2.2.2) ∧ w' = w := by
  rcases (by omega : k = 0 ∨ k = 1 ∨ k = 2 ∨ k = 3 ∨ k = 4 ∨ k = 5 ∨ k = 6 ∨ k = 7 ∨ k = 8 ∨ k = 9 ∨ k = 10 ∨ k = 11 ∨ k = 12 ∨ k = 13 ∨ k = 14 ∨ k = 15 ∨ k = 16 ∨ k = 17 ∨ k = 18 ∨ k = 19 ∨ k = 20 ∨ k = 21 ∨ k = 22 ∨ k = 23 ∨ k = 24 ∨ k = 25 ∨ k = 26 ∨ k = 27 ∨ k = 28 ∨ k = 29 ∨ k = 30 ∨ k = 31 ∨ k = 32 ∨ k = 33 ∨ k = 34 ∨ k = 35 ∨ k = 36 ∨ k = 37 ∨ k = 38 ∨ k = 39 ∨ k = 40 ∨ k = 41 ∨ k = 42 ∨ k = 43 ∨ k = 44 ∨ k = 45 ∨ k = 46 ∨ k = 47) with rfl | rfl | rfl | rfl | rfl | rfl | rfl | rfl | rfl | rfl | rfl | rfl | rfl | rfl | rfl | rfl | rfl | rfl | rfl | rfl | rfl | rfl | rfl | rfl | rfl | rfl | rfl | rfl | rfl | rfl | rfl | rfl | rfl | rfl | rfl | rfl | rfl | rfl | rfl | rfl | rfl | rfl | rfl | rfl | rfl | rfl | rfl | rfl
  all_goals
    go_enter Tryz.func100, Tryz.ntmps100
    go_wp2
    go_ret
    exact ⟨rfl, rfl⟩
set_option maxHeartbeats 8000000 in
theorem toBack_out (a : Int) (ha : ¬ isOp a) (w : World) : Calls Tryz.prog 100 #[.int .i64 a] w fun e w' => e = .returned (.int .i64 0) ∧ w' = w := by
  rcases (by omega : a < 0 ∨ 48 ≤ a) with h | h
  all_goals
    clear ha
    go_enter Tryz.func100, Tryz.ntmps100
    go_wp2
    go_ret
    exact ⟨rfl, rfl⟩
theorem toBack_any (a : Int) (w : World) : Calls Tryz.prog 100 #[.int .i64 a] w fun e w' => e = .returned (.int .i64 (movesI a).2.2.2) ∧ w' = w := by
  by_cases h : isOp a
  · obtain ⟨k, hk, rfl⟩ := nat_of_op h
    rw [show movesI (k : Int) = movesOf k by unfold movesI; rw [if_pos h]; rfl]
    exact toBack_at k hk w
  · rw [show movesI a = (0, 0, 0, 0) by unfold movesI; rw [if_neg h]]
    exact toBack_out a h w
end Go.Proofs.YtlomfmilohbgpaaGreatDoor
/- Package op: what each of its calls answers, for every number and every text; the table of names holds them. -/
namespace Go.Proofs.YtlomfmilohbgpaaGreatDoor
open Go.RowKit
set_option linter.unusedSimpArgs false
set_option linter.unusedVariables false
theorem op_below_drewN (B : Nat) (w : World) : ∀ n, Below B w (w.drewN n)
  | 0 => Below.refl _ _
  | n + 1 => by rw [← World.drew_drewN]; exact (op_below_drewN B w n).drew
theorem opRight_same (a : Int) (w : World) : Calls Tryz.prog 44 #[.int .i64 a] w fun e w' => e = .returned (.bool (opB a)) ∧ w' = w := by
  by_cases h0 : 0 ≤ a
  · have e0 : opB a = decide (a < 48) := by simp [opB, isOp, h0]
    rw [e0]
    clear e0
    go_enter Tryz.func44, Tryz.ntmps44
    go_wp2
    go_ret
    exact ⟨rfl, rfl⟩
  · have e0 : opB a = false := by simp [opB, isOp, h0]
    rw [e0]
    clear e0
    go_enter Tryz.func44, Tryz.ntmps44
    go_wp2
    go_ret
    exact ⟨rfl, rfl⟩
theorem opRight_any (a : Int) (w : World) : Calls Tryz.prog 44 #[.int .i64 a] w (Says (.bool (opB a)) w) :=
  (opRight_same a w).mono fun e w' h => Says.of h
theorem opName_same (a : Int) (w : World) (hn : NamesIs w) : Calls Tryz.prog 64 #[.int .i64 a] w fun e w' => e = .returned (.string (nameI a)) ∧ w' = w := by
  have C := Lib.hid (opRight_same a w)
  by_cases h : isOp a
  · obtain ⟨k, hk, rfl⟩ := nat_of_op h
    rw [show opB (k : Int) = true from decide_eq_true h] at C
    rw [nameI_nat hk]
    have hc := hn.cell hk
    have e0 : (0 : Int) ≤ (k : Int) := by omega
    have e1 : (k : Int) < 48 := by omega
    go_enter Tryz.func64, Tryz.ntmps64
    go_wp2_with fail
    refine C.out.mono ?_
    rintro e wz ⟨rfl, hwz⟩
    subst wz
    go_wp2
    go_ret
    exact ⟨rfl, rfl⟩
  · rw [show opB a = false from decide_eq_false h] at C
    rw [nameI_no h]
    go_enter Tryz.func64, Tryz.ntmps64
    go_wp2_with fail
    refine C.out.mono ?_
    rintro e wz ⟨rfl, hwz⟩
    subst wz
    go_wp2
    go_ret
    exact ⟨rfl, rfl⟩
theorem opName_any (a : Int) (w : World) (hn : NamesIs w) : Calls Tryz.prog 64 #[.int .i64 a] w (Says (.string (nameI a)) w) :=
  (opName_same a w hn).mono fun e w' h => Says.of h
theorem opArg_same (a : Int) (w : World) : Calls Tryz.prog 25 #[.int .i64 a] w fun e w' => e = .returned (.bool (argI a)) ∧ w' = w := by
  by_cases h : isOp a
  · obtain ⟨k, hk, rfl⟩ := nat_of_op h
    rw [show argI (k : Int) = argOf k by unfold argI; rw [if_pos h]; rfl]
    clear h
    by_cases h2 : k = 2
    · subst h2; go_enter Tryz.func25, Tryz.ntmps25; go_wp2; go_ret; exact ⟨rfl, rfl⟩
    by_cases h3 : k = 3
    · subst h3; go_enter Tryz.func25, Tryz.ntmps25; go_wp2; go_ret; exact ⟨rfl, rfl⟩
    by_cases h4 : k = 4
    · subst h4; go_enter Tryz.func25, Tryz.ntmps25; go_wp2; go_ret; exact ⟨rfl, rfl⟩
    by_cases h37 : k = 37
    · subst h37; go_enter Tryz.func25, Tryz.ntmps25; go_wp2; go_ret; exact ⟨rfl, rfl⟩
    by_cases h38 : k = 38
    · subst h38; go_enter Tryz.func25, Tryz.ntmps25; go_wp2; go_ret; exact ⟨rfl, rfl⟩
    have e : argOf k = false := by unfold argOf; exact decide_eq_false (by omega)
    rw [e]
    have e2 : ((k : Int) == 2) = false := by simp; omega
    have e3 : ((k : Int) == 3) = false := by simp; omega
    have e4 : ((k : Int) == 4) = false := by simp; omega
    have e37 : ((k : Int) == 37) = false := by simp; omega
    have e38 : ((k : Int) == 38) = false := by simp; omega
    go_enter Tryz.func25, Tryz.ntmps25
    go_wp2
    go_ret
    exact ⟨rfl, rfl⟩
  · rw [show argI a = false by unfold argI; rw [if_neg h]]
    rcases (by omega : a < 0 ∨ 48 ≤ a) with h | h
    all_goals
      go_enter Tryz.func25, Tryz.ntmps25
      go_wp2
      go_ret
      exact ⟨rfl, rfl⟩
theorem opArg_any (a : Int) (w : World) : Calls Tryz.prog 25 #[.int .i64 a] w (Says (.bool (argI a)) w) :=
  (opArg_same a w).mono fun e w' h => Says.of h
theorem opPlain_same (a : Int) (w : World) : Calls Tryz.prog 28 #[.int .i64 a] w fun e w' => e = .returned (.bool (plainI a)) ∧ w' = w := by
  have C := Lib.hid (opRight_same a w)
  by_cases h : isOp a
  · obtain ⟨k, hk, rfl⟩ := nat_of_op h
    rw [show opB (k : Int) = true from decide_eq_true h] at C
    rw [show plainI (k : Int) = plainOf k by unfold plainI; rw [if_pos h]; rfl]
    clear h
    by_cases h2 : k = 0
    · subst h2; go_enter Tryz.func28, Tryz.ntmps28; go_wp2; go_ret; exact ⟨rfl, rfl⟩
    by_cases h3 : k = 1
    · subst h3; go_enter Tryz.func28, Tryz.ntmps28; go_wp2; go_ret; exact ⟨rfl, rfl⟩
    by_cases h4 : k = 45
    · subst h4; go_enter Tryz.func28, Tryz.ntmps28; go_wp2; go_ret; exact ⟨rfl, rfl⟩
    by_cases h37 : k = 46
    · subst h37; go_enter Tryz.func28, Tryz.ntmps28; go_wp2; go_ret; exact ⟨rfl, rfl⟩
    have e : plainOf k = true := by unfold plainOf; exact decide_eq_true (by omega)
    rw [e]
    have e2 : ((k : Int) == 0) = false := by simp; omega
    have e3 : ((k : Int) == 1) = false := by simp; omega
    have e45 : ((k : Int) == 45) = false := by simp; omega
    have e46 : ((k : Int) == 46) = false := by simp; omega
    go_enter Tryz.func28, Tryz.ntmps28
    go_wp2_with fail
    refine C.out.mono ?_
    rintro e wz ⟨rfl, hwz⟩
    subst wz
    go_wp2
    go_ret
    exact ⟨rfl, rfl⟩
  · rw [show plainI a = false by unfold plainI; rw [if_neg h]]
    rw [show opB a = false from decide_eq_false h] at C
    rcases (by omega : a < 0 ∨ 48 ≤ a) with h | h
    all_goals
      go_enter Tryz.func28, Tryz.ntmps28
      go_wp2_with fail
      refine C.out.mono ?_
      rintro e wz ⟨rfl, hwz⟩
      subst wz
      go_wp2
      go_ret
      exact ⟨rfl, rfl⟩
theorem opPlain_any (a : Int) (w : World) : Calls Tryz.prog 28 #[.int .i64 a] w (Says (.bool (plainI a)) w) :=
  (opPlain_same a w).mono fun e w' h => Says.of h
theorem opTakes_same (a : Int) (w : World) : Calls Tryz.prog 74 #[.int .i64 a] w fun e w' => e = .returned (.tuple #[.int .i64 (movesI a).1, .int .i64 (movesI a).2.1]) ∧ w' = w := by
  have C := Lib.hid (fromStack_any a w)
  have D := Lib.hid (fromBack_any a w)
  generalize movesI a = m at C D ⊢
  obtain ⟨m1, m2, m3, m4⟩ := m
  dsimp only at C D ⊢
  go_enter Tryz.func74, Tryz.ntmps74
  go_wp2_with fail
  refine C.out.mono ?_
  rintro e wz ⟨rfl, hwz⟩
  subst wz
  clear C
  go_wp2_with fail
  refine D.out.mono ?_
  rintro e wz ⟨rfl, hwz⟩
  subst wz
  go_wp2
  go_ret2
  exact ⟨rfl, rfl⟩
theorem opTakes_any (a : Int) (w : World) : Calls Tryz.prog 74 #[.int .i64 a] w (Says (.tuple #[.int .i64 (movesI a).1, .int .i64 (movesI a).2.1]) w) :=
  (opTakes_same a w).mono fun e w' h => Says.of h
theorem opGives_same (a : Int) (w : World) : Calls Tryz.prog 87 #[.int .i64 a] w fun e w' => e = .returned (.tuple #[.int .i64 (movesI a).2.2.1, .int .i64 (movesI a).2.2.2]) ∧ w' = w := by
  have C := Lib.hid (toStack_any a w)
  have D := Lib.hid (toBack_any a w)
  generalize movesI a = m at C D ⊢
  obtain ⟨m1, m2, m3, m4⟩ := m
  dsimp only at C D ⊢
  go_enter Tryz.func87, Tryz.ntmps87
  go_wp2_with fail
  refine C.out.mono ?_
  rintro e wz ⟨rfl, hwz⟩
  subst wz
  clear C
  go_wp2_with fail
  refine D.out.mono ?_
  rintro e wz ⟨rfl, hwz⟩
  subst wz
  go_wp2
  go_ret2
  exact ⟨rfl, rfl⟩
theorem opGives_any (a : Int) (w : World) : Calls Tryz.prog 87 #[.int .i64 a] w (Says (.tuple #[.int .i64 (movesI a).2.2.1, .int .i64 (movesI a).2.2.2]) w) :=
  (opGives_same a w).mono fun e w' h => Says.of h
/-- is a text that name, of which the letters are great? -/
def namedB (s t : ByteArray) : Bool := decide (s.data.toList.map Lib.upperB = t.data.toList)
theorem namedB_size {s t : ByteArray} (h : s.size ≠ t.size) : namedB s t = false := by
  unfold namedB
  refine decide_eq_false fun e => h ?_
  have := congrArg List.length e
  rw [List.length_map, bytes_len, bytes_len] at this
  exact this
theorem byte_at (s : ByteArray) (k : Nat) (h : k < s.size) : s.data.toList[k]? = some s[k] := by
  rw [List.getElem?_eq_getElem (by rw [bytes_len]; exact h)]
  rfl
theorem take_step {s t : ByteArray} {k : Nat} (hs : k < s.size) (ht : k < t.size) : ((s.data.toList.take (k + 1)).map Lib.upperB = t.data.toList.take (k + 1)) ↔ ((s.data.toList.take k).map Lib.upperB = t.data.toList.take k ∧ Lib.upperB s[k] = t[k]) := by
  rw [List.take_add_one, List.take_add_one, byte_at s k hs, byte_at t k ht, List.map_append]
  simp only [Option.toList_some, List.map_cons, List.map_nil]
  constructor
  · intro e
    have := List.append_inj e (by simp [List.length_take, bytes_len]; omega)
    exact ⟨this.1, by simpa using this.2⟩
  · rintro ⟨e1, e2⟩
    rw [e1, e2]
theorem name_up : ∀ i : Fin 48, (bytesOf i).map Lib.upperB = bytesOf i := by decide +kernel
theorem namedB_name {s : ByteArray} {k : Nat} (hk : k < 48) : namedB s (nameOf k) = alike (nameOf k) s := by
  have h := name_up ⟨k, hk⟩
  by_cases e : s.data.toList.map Lib.upperB = (nameOf k).data.toList
  · rw [show namedB s (nameOf k) = true from decide_eq_true e, (alike_iff _ _).2 (by rw [e]; exact h)]
  · rw [show namedB s (nameOf k) = false from decide_eq_false e]
    cases h2 : alike (nameOf k) s with
    | false => rfl
    | true => exact absurd (((alike_iff _ _).1 h2).symm.trans h) e
end Go.Proofs.YtlomfmilohbgpaaGreatDoor
