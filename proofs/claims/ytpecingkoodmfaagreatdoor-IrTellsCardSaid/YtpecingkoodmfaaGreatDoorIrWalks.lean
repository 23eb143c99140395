
/- Package ir, and the document's answer to it: the small calls. -/
import Derived.Test.YtpecingkoodmfaaGreatDoorIrMem
import Derived.Test.YtpecingkoodmfaaGreatDoorCellWalks
import Derived.Test.YtpecingkoodmfaaGreatDoorRef1Walks
import Derived.Lib.Hide
namespace Go.Proofs.YtpecingkoodmfaaGreatDoor.Ir
open Go.RowKit Book Mem
set_option linter.unusedSimpArgs false
set_option linter.unusedVariables false
theorem within_any (n m : Int) (w : World) : Calls Tryz.prog 95 #[.int .i64 n, .int .i64 m] w fun e w' => e = .returned (.bool (within n m)) ∧ w' = w := by
  by_cases h0 : 0 ≤ n
  · by_cases h1 : n ≤ m
    · have HP := Lib.hid (within_yes h0 h1)
      go_enter Tryz.func95, Tryz.ntmps95
      go_wp2
      go_ret
      exact ⟨by rw [HP.out]; rfl, rfl⟩
    · have HP := Lib.hid (within_no (fun h => h1 h.2) : within n m = false)
      go_enter Tryz.func95, Tryz.ntmps95
      go_wp2
      go_ret
      exact ⟨by rw [HP.out]; rfl, rfl⟩
  · have HP := Lib.hid (within_no (fun h => h0 h.1) : within n m = false)
    go_enter Tryz.func95, Tryz.ntmps95
    go_wp2
    go_ret
    exact ⟨by rw [HP.out]; rfl, rfl⟩
theorem rwithin_any (n m : Int) (w : World) : Calls Tryz.prog 45 #[.int .i64 n, .int .i64 m] w fun e w' => e = .returned (.bool (within n m)) ∧ w' = w := by
  by_cases h0 : 0 ≤ n
  · by_cases h1 : n ≤ m
    · have HP := Lib.hid (within_yes h0 h1)
      go_enter Tryz.func45, Tryz.ntmps45
      go_wp2
      go_ret
      exact ⟨by rw [HP.out]; rfl, rfl⟩
    · have HP := Lib.hid (within_no (fun h => h1 h.2) : within n m = false)
      go_enter Tryz.func45, Tryz.ntmps45
      go_wp2
      go_ret
      exact ⟨by rw [HP.out]; rfl, rfl⟩
  · have HP := Lib.hid (within_no (fun h => h0 h.1) : within n m = false)
    go_enter Tryz.func45, Tryz.ntmps45
    go_wp2
    go_ret
    exact ⟨by rw [HP.out]; rfl, rfl⟩
theorem op_all (op : Int) : op < 1 ∨ 12 < op ∨ op = 1 ∨ op = 2 ∨ op = 3 ∨ op = 4 ∨ op = 5 ∨ op = 6 ∨ op = 7 ∨ op = 8 ∨ op = 9 ∨ op = 10 ∨ op = 11 ∨ op = 12 := by omega
set_option maxHeartbeats 1000000 in
theorem gives_any (op : Int) (w : World) : Calls Tryz.prog 17 #[.int .i64 op] w fun e w' => e = .returned (.bool (gives op)) ∧ w' = w := by
  rcases op_all op with h | h | rfl | rfl | rfl | rfl | rfl | rfl | rfl | rfl | rfl | rfl | rfl | rfl
  · have HP := Lib.hid (show gives op = false by unfold gives; exact decide_eq_false (by omega))
    go_enter Tryz.func17, Tryz.ntmps17
    go_wp2
    go_ret
    exact ⟨by rw [HP.out]; rfl, rfl⟩
  · have HP := Lib.hid (show gives op = false by unfold gives; exact decide_eq_false (by omega))
    go_enter Tryz.func17, Tryz.ntmps17
    go_wp2
    go_ret
    exact ⟨by rw [HP.out]; rfl, rfl⟩
  all_goals
    go_enter Tryz.func17, Tryz.ntmps17
    go_wp2
    go_ret
    exact ⟨rfl, rfl⟩
set_option maxHeartbeats 1000000 in
theorem rgives_any (op : Int) (w : World) : Calls Tryz.prog 18 #[.int .i64 op] w fun e w' => e = .returned (.bool (gives op)) ∧ w' = w := by
  rcases op_all op with h | h | rfl | rfl | rfl | rfl | rfl | rfl | rfl | rfl | rfl | rfl | rfl | rfl
  · have HP := Lib.hid (show gives op = false by unfold gives; exact decide_eq_false (by omega))
    go_enter Tryz.func18, Tryz.ntmps18
    go_wp2
    go_ret
    exact ⟨by rw [HP.out]; exact retB (by simp; omega), rfl⟩
  · have HP := Lib.hid (show gives op = false by unfold gives; exact decide_eq_false (by omega))
    go_enter Tryz.func18, Tryz.ntmps18
    go_wp2
    go_ret
    exact ⟨by rw [HP.out]; exact retB (by simp; omega), rfl⟩
  all_goals
    go_enter Tryz.func18, Tryz.ntmps18
    go_wp2
    go_ret
    exact ⟨rfl, rfl⟩
theorem two_is (op : Int) : (Cell.two op 1 1).2 = twoI op := by
  rcases Cell.op_cases op with h | h | rfl | rfl | rfl | rfl | rfl | rfl | rfl | rfl | rfl | rfl | rfl | rfl | rfl | rfl | rfl | rfl | rfl | rfl | rfl
  · rw [Cell.two_lo h]; exact (decide_eq_false (by omega)).symm
  · rw [Cell.two_hi h]; exact (decide_eq_false (by omega)).symm
  all_goals decide
theorem one_is (op : Int) : (Cell.one op 1).2 = oneI op := by
  unfold Cell.one oneI
  by_cases h1 : op = 16
  · subst h1; decide
  · rw [if_neg h1]
    by_cases h2 : op = 20
    · subst h2; decide
    · rw [if_neg h2]
      by_cases h3 : op = 26
      · subst h3; decide
      · rw [if_neg h3]
        by_cases h4 : op = 27
        · subst h4; decide
        · rw [if_neg h4]
          exact (decide_eq_false (by omega)).symm
theorem two_any (op : Int) (w : World) : Calls Tryz.prog 54 #[.int .i64 op] w fun e w' => e = .returned (.bool (twoI op)) ∧ Below w.heap.size w w' := by
  have C := Lib.hid (Cell.two_any op 1 1 (by unfold Cell.In; omega) w)
  have HT := Lib.hid (two_is op)
  obtain ⟨q, hq⟩ : ∃ q, Cell.two op 1 1 = q := ⟨_, rfl⟩
  rw [hq] at C HT
  clear hq
  go_enter Tryz.func54, Tryz.ntmps54
  go_wp2_with fail
  refine C.out.mono ?_
  rintro e w1 ⟨rfl, n, rfl⟩
  go_wp2
  go_ret
  exact ⟨by rw [HT.out]; rfl, (Stirred.drewN w n []).below (fun k hk => by cases hk) (Nat.le_refl _)⟩
theorem one_any (op : Int) (w : World) : Calls Tryz.prog 114 #[.int .i64 op] w fun e w' => e = .returned (.bool (oneI op)) ∧ Below w.heap.size w w' := by
  have C := Lib.hid (Cell.one_any op 1 (by unfold Cell.In; omega) w)
  have HT := Lib.hid (one_is op)
  obtain ⟨q, hq⟩ : ∃ q, Cell.one op 1 = q := ⟨_, rfl⟩
  rw [hq] at C HT
  clear hq
  go_enter Tryz.func114, Tryz.ntmps114
  go_wp2_with fail
  refine C.out.mono ?_
  rintro e w1 ⟨rfl, n, rfl⟩
  go_wp2
  go_ret
  exact ⟨by rw [HT.out]; rfl, (Stirred.drewN w n []).below (fun k hk => by cases hk) (Nat.le_refl _)⟩
theorem risTwo_any (op : Int) (w : World) : Calls Tryz.prog 19 #[.int .i64 op] w fun e w' => e = .returned (.bool (twoI op)) ∧ w' = w :=
  (Cell.ref_isTwo op w).mono fun e w' h => ⟨h.1, h.2.symm⟩
set_option maxHeartbeats 1000000 in
theorem risOne_any (op : Int) (w : World) : Calls Tryz.prog 20 #[.int .i64 op] w fun e w' => e = .returned (.bool (oneI op)) ∧ w' = w := by
  by_cases h : op = 16 ∨ op = 20 ∨ op = 26 ∨ op = 27
  · rcases h with rfl | rfl | rfl | rfl
    all_goals
      go_enter Tryz.func20, Tryz.ntmps20
      go_wp2
      go_ret
      exact ⟨rfl, rfl⟩
  · have HP := Lib.hid (show oneI op = false from decide_eq_false h)
    have h1 : (op == 16) = false := by simp; omega
    have h2 : (op == 20) = false := by simp; omega
    have h3 : (op == 26) = false := by simp; omega
    have h4 : (op == 27) = false := by simp; omega
    clear h
    go_enter Tryz.func20, Tryz.ntmps20
    go_wp2
    go_ret
    exact ⟨by rw [HP.out]; rfl, rfl⟩
end Go.Proofs.YtpecingkoodmfaaGreatDoor.Ir
