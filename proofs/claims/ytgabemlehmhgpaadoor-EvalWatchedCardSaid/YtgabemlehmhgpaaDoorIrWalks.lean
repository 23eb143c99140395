
/- Package ir, and the document's answer to it: the small calls. -/
import Derived.Test.YtgabemlehmhgpaaDoorIrMem
import Derived.Test.YtgabemlehmhgpaaDoorCellWalks
import Derived.Test.YtgabemlehmhgpaaDoorRef1Walks
import Derived.Lib.Hide
namespace Go.Proofs.YtgabemlehmhgpaaDoor.Ir
open Go.RowKit Book Mem
set_option linter.unusedSimpArgs false
set_option linter.unusedVariables false
theorem rwithin_any (n m : Int) (w : World) : Calls Tryd.prog 12 #[.int .i64 n, .int .i64 m] w fun e w' => e = .returned (.bool (within n m)) ∧ w' = w := by
  by_cases h0 : 0 ≤ n
  · by_cases h1 : n ≤ m
    · have HP := Lib.hid (within_yes h0 h1)
      go_enter Tryd.func12, Tryd.ntmps12
      go_wp2
      go_ret
      exact ⟨by rw [HP.out]; rfl, rfl⟩
    · have HP := Lib.hid (within_no (fun h => h1 h.2) : within n m = false)
      go_enter Tryd.func12, Tryd.ntmps12
      go_wp2
      go_ret
      exact ⟨by rw [HP.out]; rfl, rfl⟩
  · have HP := Lib.hid (within_no (fun h => h0 h.1) : within n m = false)
    go_enter Tryd.func12, Tryd.ntmps12
    go_wp2
    go_ret
    exact ⟨by rw [HP.out]; rfl, rfl⟩
theorem op_all (op : Int) : op < 1 ∨ 12 < op ∨ op = 1 ∨ op = 2 ∨ op = 3 ∨ op = 4 ∨ op = 5 ∨ op = 6 ∨ op = 7 ∨ op = 8 ∨ op = 9 ∨ op = 10 ∨ op = 11 ∨ op = 12 := by omega
set_option maxHeartbeats 1000000 in
theorem rgives_any (op : Int) (w : World) : Calls Tryd.prog 26 #[.int .i64 op] w fun e w' => e = .returned (.bool (gives op)) ∧ w' = w := by
  rcases op_all op with h | h | rfl | rfl | rfl | rfl | rfl | rfl | rfl | rfl | rfl | rfl | rfl | rfl
  · have HP := Lib.hid (show gives op = false by unfold gives; exact decide_eq_false (by omega))
    go_enter Tryd.func26, Tryd.ntmps26
    go_wp2
    go_ret
    exact ⟨by rw [HP.out]; exact retB (by simp; omega), rfl⟩
  · have HP := Lib.hid (show gives op = false by unfold gives; exact decide_eq_false (by omega))
    go_enter Tryd.func26, Tryd.ntmps26
    go_wp2
    go_ret
    exact ⟨by rw [HP.out]; exact retB (by simp; omega), rfl⟩
  all_goals
    go_enter Tryd.func26, Tryd.ntmps26
    go_wp2
    go_ret
    exact ⟨rfl, rfl⟩
theorem two_is (op : Int) : (Cell.two op 1 1).2 = twoI op := by
  rcases Cell.op_cases op with h | h | rfl | rfl | rfl | rfl | rfl | rfl | rfl | rfl | rfl | rfl | rfl | rfl | rfl | rfl | rfl | rfl | rfl | rfl | rfl
  · rw [Cell.two_lo h]; exact (decide_eq_false (by omega)).symm
  · rw [Cell.two_hi h]; exact (decide_eq_false (by omega)).symm
  all_goals decide
theorem one_is (op : Int) : (Cell.one op 1).2 = oneI op := by
  unfold Cell.one oneI
  by_cases h1 : op = 16
  · subst h1; decide
  · rw [if_neg h1]
    by_cases h2 : op = 20
    · subst h2; decide
    · rw [if_neg h2]
      by_cases h3 : op = 26
      · subst h3; decide
      · rw [if_neg h3]
        by_cases h4 : op = 27
        · subst h4; decide
        · rw [if_neg h4]
          exact (decide_eq_false (by omega)).symm
theorem risTwo_any (op : Int) (w : World) : Calls Tryd.prog 13 #[.int .i64 op] w fun e w' => e = .returned (.bool (twoI op)) ∧ w' = w :=
  (Cell.ref_isTwo op w).mono fun e w' h => ⟨h.1, h.2.symm⟩
set_option maxHeartbeats 1000000 in
theorem risOne_any (op : Int) (w : World) : Calls Tryd.prog 14 #[.int .i64 op] w fun e w' => e = .returned (.bool (oneI op)) ∧ w' = w := by
  by_cases h : op = 16 ∨ op = 20 ∨ op = 26 ∨ op = 27
  · rcases h with rfl | rfl | rfl | rfl
    all_goals
      go_enter Tryd.func14, Tryd.ntmps14
      go_wp2
      go_ret
      exact ⟨rfl, rfl⟩
  · have HP := Lib.hid (show oneI op = false from decide_eq_false h)
    have h1 : (op == 16) = false := by simp; omega
    have h2 : (op == 20) = false := by simp; omega
    have h3 : (op == 26) = false := by simp; omega
    have h4 : (op == 27) = false := by simp; omega
    clear h
    go_enter Tryd.func14, Tryd.ntmps14
    go_wp2
    go_ret
    exact ⟨by rw [HP.out]; rfl, rfl⟩
end Go.Proofs.YtgabemlehmhgpaaDoor.Ir
