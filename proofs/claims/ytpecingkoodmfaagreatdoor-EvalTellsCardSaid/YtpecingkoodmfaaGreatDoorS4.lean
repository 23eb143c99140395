/- The walks of the document's own answer to chapter 1 (hollowayref1: cells). -/
import Derived.Test.YtpecingkoodmfaaGreatDoorS3
import Derived.Lib.Hide
import Derived.Deep.LoopGhost
import Derived.Deep.RegionHeld3
import Derived.BigQuiet
import Derived.Deep.QuietTactic
import Derived.IntWalk
import Derived.Deep.DeepCutAuto
namespace Go.Proofs.YtpecingkoodmfaaGreatDoor.Cell
open Go.RowKit

theorem ref_rest {a b : Int} (ib : In b) (hb : b ≠ 0) : wrap64 (a - wrap64 (wrap64 (a.tdiv b) * b)) = a.tmod b := by
  have h1 : In (a.tmod b) := by
    unfold In at *
    rcases Int.lt_or_gt_of_ne hb with h | h
    · have e : a.tmod b = a.tmod (-b) := (Int.tmod_neg a b).symm
      have := Int.tmod_lt_of_pos a (show 0 < -b by omega)
      have := Int.lt_tmod_of_pos a (show 0 < -b by omega)
      omega
    · have := Int.tmod_lt_of_pos a h
      have := Int.lt_tmod_of_pos a h
      omega
  rw [wrap_mul_left]
  have h2 : wrap64 (a - wrap64 (a.tdiv b * b)) = wrap64 (a - a.tdiv b * b) := by unfold wrap64; omega
  rw [h2, ← wrap_of h1, Int.tmod_def, Int.mul_comm b]
set_option maxHeartbeats 400000 in
theorem ref_floor (a b : Int) (ib : In b) (hb : (b == 0) = false) (w : World) :
    Calls Tryz.prog 109 #[.int .i64 a, .int .i64 b] w fun e w' => e = .returned (.tuple #[.int .i64 (fq a b), .int .i64 (fr a b)]) ∧ w = w' := by
  have hb' : b ≠ 0 := by simpa using hb
  have hr := ref_rest (a := a) ib hb'
  go_enter Tryz.func109, Tryz.ntmps109
  go_wp2
  · go_ret2
    exact ⟨retQ (floor1 ‹_›).1 (floor1 ‹_›).2, rfl⟩
  · go_ret2
    exact ⟨retQ (floor2 hb' ib ‹_› ‹_›).1 (floor2 hb' ib ‹_› ‹_›).2, rfl⟩
  · go_ret2
    exact ⟨retQ (floor3 ‹_› ‹_›).1 (floor3 ‹_› ‹_›).2, rfl⟩
set_option maxHeartbeats 400000 in
theorem ref_flag (b : Bool) (w : World) :
    Calls Tryz.prog 110 #[.bool b] w fun e w' => e = .returned (.int .i64 (flag b)) ∧ w = w' := by
  cases b
  all_goals
    go_enter Tryz.func110, Tryz.ntmps110
    go_wp2
    go_ret
    exact ⟨rfl, rfl⟩
def isTwo (op : Int) : Bool := decide (11 ≤ op ∧ op ≤ 15 ∨ 17 ≤ op ∧ op ≤ 19 ∨ 21 ≤ op ∧ op ≤ 25 ∨ op = 28 ∨ op = 29)
set_option maxHeartbeats 400000 in
theorem ref_isTwo (op : Int) (w : World) :
    Calls Tryz.prog 19 #[.int .i64 op] w fun e w' => e = .returned (.bool (isTwo op)) ∧ w = w' := by
  rcases op_cases op with h | h | rfl | rfl | rfl | rfl | rfl | rfl | rfl | rfl | rfl | rfl | rfl | rfl | rfl | rfl | rfl | rfl | rfl | rfl | rfl
  · have e : isTwo op = false := by unfold isTwo; rw [decide_eq_false_iff_not]; omega
    rw [e]; clear e
    go_enter Tryz.func19, Tryz.ntmps19
    go_wp2
    go_ret
    exact ⟨retB (by simp; omega), rfl⟩
  · have e : isTwo op = false := by unfold isTwo; rw [decide_eq_false_iff_not]; omega
    rw [e]; clear e
    go_enter Tryz.func19, Tryz.ntmps19
    go_wp2
    go_ret
    exact ⟨retB (by simp; omega), rfl⟩
  all_goals
    go_enter Tryz.func19, Tryz.ntmps19
    go_wp2
    go_ret
    exact ⟨rfl, rfl⟩
set_option maxHeartbeats 1000000 in
theorem ref_one (op a : Int) (ia : In a) (w : World) :
    Calls Tryz.prog 87 #[.int .i64 op, .int .i64 a] w (Tells (one op a) w) := by
  rcases op_cases op with h | h | rfl | rfl | rfl | rfl | rfl | rfl | rfl | rfl | rfl | rfl | rfl | rfl | rfl | rfl | rfl | rfl | rfl | rfl | rfl
  · rw [one_lo h]; go_enter Tryz.func87, Tryz.ntmps87
    go_wp2
    go_ret2; exact ⟨ret2 rfl rfl, 0, rfl⟩
  · rw [one_hi h]; go_enter Tryz.func87, Tryz.ntmps87
    go_wp2
    go_ret2; exact ⟨ret2 rfl rfl, 0, rfl⟩
  all_goals
    go_enter Tryz.func87, Tryz.ntmps87
    go_wp2_with (go_at_call 110; refine (ref_flag _ _).mono ?_; rintro e w' ⟨rfl, rfl⟩)
    go_ret2; exact ⟨ret2 (by first | rfl | exact not_sub ia) rfl, 0, rfl⟩
/-- the reference's shift after k rounds -/
def shN (l : Bool) (a : Int) (k : Nat) : Int := if l then (uns a * 2 ^ k) % 18446744073709551616 else uns a / 2 ^ k
theorem shN_in (l : Bool) (a : Int) (k : Nat) : 0 ≤ shN l a k ∧ shN l a k < 18446744073709551616 := by
  have h := uns_lt a
  unfold shN
  split
  · omega
  · have hp : (0 : Int) < 2 ^ k := Int.pow_pos (by decide)
    exact ⟨Int.ediv_nonneg h.1 (by omega), Int.lt_of_le_of_lt (Int.ediv_le_self _ h.1) h.2⟩
theorem shN_left (a : Int) (k : Nat) : IntKind.u64.wrap (shN true a k * 2) = shN true a (k + 1) := by
  simp only [shN, if_true, IntKind.wrap_u64, Int.pow_succ]
  rw [← Int.mul_assoc, Int.mul_emod (uns a * 2 ^ k) 2, Int.mul_emod (uns a * 2 ^ k % _) 2, Int.emod_emod_of_dvd _ (Int.dvd_refl _)]
theorem shN_right (a : Int) (k : Nat) : shN false a k / 2 = shN false a (k + 1) := by
  simp only [shN, Bool.false_eq_true, if_false, Int.pow_succ]
  rw [Int.ediv_ediv_of_nonneg (Int.pow_nonneg (by decide))]
theorem shN_zero (l : Bool) (a : Int) : IntKind.u64.wrap a = shN l a 0 := by
  have h := uns_lt a
  rw [uns_of]; unfold shN; cases l <;> simp <;> omega
theorem shN_end_left {a b : Int} (h0 : 0 ≤ b) (h1 : b ≤ 63) : wrap64 (shN true a b.toNat) = (two 21 a b).1 := by
  show _ = shl a b
  unfold shl; rw [if_neg (by omega)]
  simp only [shN, if_true]
  rw [← wrap_mul_left a, ← wrap_uns a, wrap_mul_left]
  unfold wrap64; omega
theorem shN_end_right {a b : Int} (h0 : 0 ≤ b) (h1 : b ≤ 63) : wrap64 (shN false a b.toNat) = (two 22 a b).1 := by
  show _ = shr a b
  unfold shr; rw [if_neg (by omega)]
  simp only [shN, Bool.false_eq_true, if_false]

theorem isTwo_lo {op : Int} (h : op < 11) : isTwo op = false := by unfold isTwo; rw [decide_eq_false_iff_not]; omega
theorem isTwo_hi {op : Int} (h : 29 < op) : isTwo op = false := by unfold isTwo; rw [decide_eq_false_iff_not]; omega
set_option maxHeartbeats 400000 in
theorem ref_shift_left (a b : Int) (h0 : 0 ≤ b) (h1 : b ≤ 63) (w : World) :
    Calls Tryz.prog 86 #[.int .i64 21, .int .i64 a, .int .i64 b] w (Tells (two 21 a b) w) := by
  go_enter Tryz.func86, Tryz.ntmps86
  go_wp2_with (first | (go_at_call 19; refine (ref_isTwo _ _).mono ?_; rintro e w' ⟨rfl, rfl⟩) | (go_at_call 110; refine (ref_flag _ _).mono ?_; rintro e w' ⟨rfl, rfl⟩))
  go_loop [10, 11] (fun x i => ∃ k : Nat, k ≤ b.toNat ∧ i = .int .i64 k ∧ x = .int .u64 (shN true a k)) (fun _ i => b.toNat - (intOf i).toNat)
  case atStart => exact ⟨0, Nat.zero_le _, rfl, by rw [shN_zero true]⟩
  case round =>
    obtain ⟨k, hk, rfl, rfl⟩ := hrel
    by_cases hlt : (k : Int) < b
    · go_wp2
      go_round
      case rel => exact ⟨k + 1, by omega, by go_num, by rw [shN_left]⟩
      case measure => simp [intOf]; omega
    · go_wp2
      go_ret2
      obtain rfl : k = b.toNat := by omega
      exact ⟨ret2 (shN_end_left h0 h1) rfl, 0, rfl⟩
set_option maxHeartbeats 400000 in
theorem ref_shift_right (a b : Int) (h0 : 0 ≤ b) (h1 : b ≤ 63) (w : World) :
    Calls Tryz.prog 86 #[.int .i64 22, .int .i64 a, .int .i64 b] w (Tells (two 22 a b) w) := by
  go_enter Tryz.func86, Tryz.ntmps86
  go_wp2_with (first | (go_at_call 19; refine (ref_isTwo _ _).mono ?_; rintro e w' ⟨rfl, rfl⟩) | (go_at_call 110; refine (ref_flag _ _).mono ?_; rintro e w' ⟨rfl, rfl⟩))
  go_loop [10, 11] (fun x i => ∃ k : Nat, k ≤ b.toNat ∧ i = .int .i64 k ∧ x = .int .u64 (shN false a k)) (fun _ i => b.toNat - (intOf i).toNat)
  case atStart => exact ⟨0, Nat.zero_le _, rfl, by rw [shN_zero false]⟩
  case round =>
    obtain ⟨k, hk, rfl, rfl⟩ := hrel
    have hx := shN_in false a k
    by_cases hlt : (k : Int) < b
    · go_wp2
      go_round
      case rel => exact ⟨k + 1, by omega, by go_num, by first | rw [shN_right] | trace_state⟩
      case measure => simp [intOf]; omega
    · go_wp2
      go_ret2
      obtain rfl : k = b.toNat := by omega
      exact ⟨ret2 (shN_end_right h0 h1) rfl, 0, rfl⟩
set_option maxHeartbeats 2000000 in
theorem ref_two (op a b : Int) (ib : In b) (w : World) :
    Calls Tryz.prog 86 #[.int .i64 op, .int .i64 a, .int .i64 b] w (Tells (two op a b) w) := by
  rcases op_cases op with h | h | rfl | rfl | rfl | rfl | rfl | rfl | rfl | rfl | rfl | rfl | rfl | rfl | rfl | rfl | rfl | rfl | rfl | rfl | rfl
  · rw [two_lo h]
    have g := isTwo_lo h
    go_enter Tryz.func86, Tryz.ntmps86
    go_wp2_with (first | (go_at_call 19; refine (ref_isTwo _ _).mono ?_; rintro e w' ⟨rfl, rfl⟩) | (go_at_call 110; refine (ref_flag _ _).mono ?_; rintro e w' ⟨rfl, rfl⟩))
    go_ret2; exact ⟨ret2 rfl rfl, 0, rfl⟩
  · rw [two_hi h]
    have g := isTwo_hi h
    go_enter Tryz.func86, Tryz.ntmps86
    go_wp2_with (first | (go_at_call 19; refine (ref_isTwo _ _).mono ?_; rintro e w' ⟨rfl, rfl⟩) | (go_at_call 110; refine (ref_flag _ _).mono ?_; rintro e w' ⟨rfl, rfl⟩))
    go_ret2; exact ⟨ret2 rfl rfl, 0, rfl⟩
  case' inr.inr.inr.inr.inr.inl =>
    by_cases hb : b = 0
    · subst hb; go_enter Tryz.func86, Tryz.ntmps86
      go_wp2_with (first | (go_at_call 19; refine (ref_isTwo _ _).mono ?_; rintro e w' ⟨rfl, rfl⟩) | (go_at_call 110; refine (ref_flag _ _).mono ?_; rintro e w' ⟨rfl, rfl⟩))
      go_ret2; exact ⟨ret2 rfl rfl, 0, rfl⟩
    · rw [two_14 hb]
      have hb' : (b == 0) = false := by simpa using hb
      clear hb
      go_enter Tryz.func86, Tryz.ntmps86
      go_wp2_with (first | (go_at_call 109; refine (ref_floor _ _ ib hb' _).mono ?_; rintro e w' ⟨rfl, rfl⟩) | (go_at_call 19; refine (ref_isTwo _ _).mono ?_; rintro e w' ⟨rfl, rfl⟩))
      go_ret2; exact ⟨ret2 rfl rfl, 0, rfl⟩
  case' inr.inr.inr.inr.inr.inr.inl =>
    by_cases hb : b = 0
    · subst hb; go_enter Tryz.func86, Tryz.ntmps86
      go_wp2_with (first | (go_at_call 19; refine (ref_isTwo _ _).mono ?_; rintro e w' ⟨rfl, rfl⟩) | (go_at_call 110; refine (ref_flag _ _).mono ?_; rintro e w' ⟨rfl, rfl⟩))
      go_ret2; exact ⟨ret2 rfl rfl, 0, rfl⟩
    · rw [two_15 hb]
      have hb' : (b == 0) = false := by simpa using hb
      clear hb
      go_enter Tryz.func86, Tryz.ntmps86
      go_wp2_with (first | (go_at_call 109; refine (ref_floor _ _ ib hb' _).mono ?_; rintro e w' ⟨rfl, rfl⟩) | (go_at_call 19; refine (ref_isTwo _ _).mono ?_; rintro e w' ⟨rfl, rfl⟩))
      go_ret2; exact ⟨ret2 rfl rfl, 0, rfl⟩
  case' inr.inr.inr.inr.inr.inr.inr.inr.inr.inr.inr.inr.inl =>
    by_cases h0 : b < 0 ∨ 63 < b
    · rw [show two 21 a b = (0, true) from by show (shl a b, true) = _; unfold shl; rw [if_pos h0]]
      rcases h0 with h0 | h0
      · go_enter Tryz.func86, Tryz.ntmps86
        go_wp2_with (first | (go_at_call 19; refine (ref_isTwo _ _).mono ?_; rintro e w' ⟨rfl, rfl⟩) | (go_at_call 110; refine (ref_flag _ _).mono ?_; rintro e w' ⟨rfl, rfl⟩))
        go_ret2; exact ⟨ret2 rfl rfl, 0, rfl⟩
      · go_enter Tryz.func86, Tryz.ntmps86
        go_wp2_with (first | (go_at_call 19; refine (ref_isTwo _ _).mono ?_; rintro e w' ⟨rfl, rfl⟩) | (go_at_call 110; refine (ref_flag _ _).mono ?_; rintro e w' ⟨rfl, rfl⟩))
        go_ret2; exact ⟨ret2 rfl rfl, 0, rfl⟩
    · exact ref_shift_left a b (by omega) (by omega) w
  case' inr.inr.inr.inr.inr.inr.inr.inr.inr.inr.inr.inr.inr.inl =>
    by_cases h0 : b < 0 ∨ 63 < b
    · rw [show two 22 a b = (0, true) from by show (shr a b, true) = _; unfold shr; rw [if_pos h0]]
      rcases h0 with h0 | h0
      · go_enter Tryz.func86, Tryz.ntmps86
        go_wp2_with (first | (go_at_call 19; refine (ref_isTwo _ _).mono ?_; rintro e w' ⟨rfl, rfl⟩) | (go_at_call 110; refine (ref_flag _ _).mono ?_; rintro e w' ⟨rfl, rfl⟩))
        go_ret2; exact ⟨ret2 rfl rfl, 0, rfl⟩
      · go_enter Tryz.func86, Tryz.ntmps86
        go_wp2_with (first | (go_at_call 19; refine (ref_isTwo _ _).mono ?_; rintro e w' ⟨rfl, rfl⟩) | (go_at_call 110; refine (ref_flag _ _).mono ?_; rintro e w' ⟨rfl, rfl⟩))
        go_ret2; exact ⟨ret2 rfl rfl, 0, rfl⟩
    · exact ref_shift_right a b (by omega) (by omega) w
  all_goals
    go_enter Tryz.func86, Tryz.ntmps86
    go_wp2_with (first | (go_at_call 19; refine (ref_isTwo _ _).mono ?_; rintro e w' ⟨rfl, rfl⟩) | (go_at_call 110; refine (ref_flag _ _).mono ?_; rintro e w' ⟨rfl, rfl⟩))
    all_goals go_ret2
    all_goals exact ⟨ret2 (by first | rfl | (show _ = flag _; rw [uns_of, uns_of]; rfl) | (show _ = min a b; omega) | (show _ = max a b; omega)) rfl, 0, rfl⟩
end Go.Proofs.YtpecingkoodmfaaGreatDoor.Cell
/- Package ir, and the document's answer to it: the small calls. -/
namespace Go.Proofs.YtpecingkoodmfaaGreatDoor.Ir
open Go.RowKit Book Mem
set_option linter.unusedSimpArgs false
set_option linter.unusedVariables false
theorem rwithin_any (n m : Int) (w : World) : Calls Tryz.prog 45 #[.int .i64 n, .int .i64 m] w fun e w' => e = .returned (.bool (within n m)) ∧ w' = w := by
  by_cases h0 : 0 ≤ n
  · by_cases h1 : n ≤ m
    · have HP := Lib.hid (within_yes h0 h1)
      go_enter Tryz.func45, Tryz.ntmps45
      go_wp2
      go_ret
      exact ⟨by rw [HP.out]; rfl, rfl⟩
    · have HP := Lib.hid (within_no (fun h => h1 h.2) : within n m = false)
      go_enter Tryz.func45, Tryz.ntmps45
      go_wp2
      go_ret
      exact ⟨by rw [HP.out]; rfl, rfl⟩
  · have HP := Lib.hid (within_no (fun h => h0 h.1) : within n m = false)
    go_enter Tryz.func45, Tryz.ntmps45
    go_wp2
    go_ret
    exact ⟨by rw [HP.out]; rfl, rfl⟩
theorem op_all (op : Int) : op < 1 ∨ 12 < op ∨ op = 1 ∨ op = 2 ∨ op = 3 ∨ op = 4 ∨ op = 5 ∨ op = 6 ∨ op = 7 ∨ op = 8 ∨ op = 9 ∨ op = 10 ∨ op = 11 ∨ op = 12 := by omega
set_option maxHeartbeats 1000000 in
theorem gives_any (op : Int) (w : World) : Calls Tryz.prog 17 #[.int .i64 op] w fun e w' => e = .returned (.bool (gives op)) ∧ w' = w := by
  rcases op_all op with h | h | rfl | rfl | rfl | rfl | rfl | rfl | rfl | rfl | rfl | rfl | rfl | rfl
  · have HP := Lib.hid (show gives op = false by unfold gives; exact decide_eq_false (by omega))
    go_enter Tryz.func17, Tryz.ntmps17
    go_wp2
    go_ret
    exact ⟨by rw [HP.out]; rfl, rfl⟩
  · have HP := Lib.hid (show gives op = false by unfold gives; exact decide_eq_false (by omega))
    go_enter Tryz.func17, Tryz.ntmps17
    go_wp2
    go_ret
    exact ⟨by rw [HP.out]; rfl, rfl⟩
  all_goals
    go_enter Tryz.func17, Tryz.ntmps17
    go_wp2
    go_ret
    exact ⟨rfl, rfl⟩
set_option maxHeartbeats 1000000 in
theorem rgives_any (op : Int) (w : World) : Calls Tryz.prog 18 #[.int .i64 op] w fun e w' => e = .returned (.bool (gives op)) ∧ w' = w := by
  rcases op_all op with h | h | rfl | rfl | rfl | rfl | rfl | rfl | rfl | rfl | rfl | rfl | rfl | rfl
  · have HP := Lib.hid (show gives op = false by unfold gives; exact decide_eq_false (by omega))
    go_enter Tryz.func18, Tryz.ntmps18
    go_wp2
    go_ret
    exact ⟨by rw [HP.out]; exact retB (by simp; omega), rfl⟩
  · have HP := Lib.hid (show gives op = false by unfold gives; exact decide_eq_false (by omega))
    go_enter Tryz.func18, Tryz.ntmps18
    go_wp2
    go_ret
    exact ⟨by rw [HP.out]; exact retB (by simp; omega), rfl⟩
  all_goals
    go_enter Tryz.func18, Tryz.ntmps18
    go_wp2
    go_ret
    exact ⟨rfl, rfl⟩
theorem two_is (op : Int) : (Cell.two op 1 1).2 = twoI op := by
  rcases Cell.op_cases op with h | h | rfl | rfl | rfl | rfl | rfl | rfl | rfl | rfl | rfl | rfl | rfl | rfl | rfl | rfl | rfl | rfl | rfl | rfl | rfl
  · rw [Cell.two_lo h]; exact (decide_eq_false (by omega)).symm
  · rw [Cell.two_hi h]; exact (decide_eq_false (by omega)).symm
  all_goals decide
theorem two_any (op : Int) (w : World) : Calls Tryz.prog 54 #[.int .i64 op] w fun e w' => e = .returned (.bool (twoI op)) ∧ Below w.heap.size w w' := by
  have C := Lib.hid (Cell.two_any op 1 1 (by unfold Cell.In; omega) w)
  have HT := Lib.hid (two_is op)
  obtain ⟨q, hq⟩ : ∃ q, Cell.two op 1 1 = q := ⟨_, rfl⟩
  rw [hq] at C HT
  clear hq
  go_enter Tryz.func54, Tryz.ntmps54
  go_wp2_with fail
  refine C.out.mono ?_
  rintro e w1 ⟨rfl, n, rfl⟩
  go_wp2
  go_ret
  exact ⟨by rw [HT.out]; rfl, (Stirred.drewN w n []).below (fun k hk => by cases hk) (Nat.le_refl _)⟩
theorem risTwo_any (op : Int) (w : World) : Calls Tryz.prog 19 #[.int .i64 op] w fun e w' => e = .returned (.bool (twoI op)) ∧ w' = w :=
  (Cell.ref_isTwo op w).mono fun e w' h => ⟨h.1, h.2.symm⟩
set_option maxHeartbeats 1000000 in
theorem risOne_any (op : Int) (w : World) : Calls Tryz.prog 20 #[.int .i64 op] w fun e w' => e = .returned (.bool (oneI op)) ∧ w' = w := by
  by_cases h : op = 16 ∨ op = 20 ∨ op = 26 ∨ op = 27
  · rcases h with rfl | rfl | rfl | rfl
    all_goals
      go_enter Tryz.func20, Tryz.ntmps20
      go_wp2
      go_ret
      exact ⟨rfl, rfl⟩
  · have HP := Lib.hid (show oneI op = false from decide_eq_false h)
    have h1 : (op == 16) = false := by simp; omega
    have h2 : (op == 20) = false := by simp; omega
    have h3 : (op == 26) = false := by simp; omega
    have h4 : (op == 27) = false := by simp; omega
    clear h
    go_enter Tryz.func20, Tryz.ntmps20
    go_wp2
    go_ret
    exact ⟨by rw [HP.out]; rfl, rfl⟩
end Go.Proofs.YtpecingkoodmfaaGreatDoor.Ir
/- Package ir, and the document's answer to it: are places known ahead of one? -/
namespace Go.Proofs.YtpecingkoodmfaaGreatDoor.Ir
open Go.RowKit Book Mem
set_option linter.unusedSimpArgs false
set_option linter.unusedVariables false
theorem drewN1_below (w : World) (q : Nat) : Below w.heap.size w (w.drewN q) := ⟨rfl, rfl, rfl, Nat.le_refl _, fun _ _ => rfl⟩
theorem okP_at {ins : List I} {pn k : Nat} {x : I} (hx : ins[pn]? = some x) (h : pn < k) : okP ins (k : Int) (pn : Int) = gives x.1 := by
  unfold okP
  rw [within_yes (by omega) (by omega), opAt_some hx, Bool.true_and]
theorem okP_no {ins : List I} {k : Nat} {p : Int} (h : ¬ (0 ≤ p ∧ p < (k : Int))) : okP ins (k : Int) p = false := by
  unfold okP
  rw [within_no (by omega), Bool.false_and]
end Go.Proofs.YtpecingkoodmfaaGreatDoor.Ir
/- The document's answer to package ir: are places known ahead of one? -/
namespace Go.Proofs.YtpecingkoodmfaaGreatDoor.Ir
open Go.RowKit Book Mem
set_option linter.unusedSimpArgs false
set_option linter.unusedVariables false
set_option maxHeartbeats 8000000 in
theorem named_any {w : World} {t : T} {vi vo vc : Value} (h : ReadsL w vi vo vc t) {v : Value} {l : List Int} (hv : Reads w v l) (k : Nat) (hk : k ≤ t.ins.length) (hk2 : k ≤ 1000000) (hl : l.length ≤ 1000000) :
    Calls Tryz.prog 46 #[trV t vi vo vc, v, .int .i64 (k : Int)] w (Says (.bool (known t.ins l k)) w) := by
  obtain ⟨ai, ci, ao, co, ac, cc, rfl, rfl, rfl⟩ := h.known
  obtain ⟨av, cv, rfl⟩ := reads_form hv
  obtain ⟨w1, g, hw1, hg, HG, HB, HZ⟩ := newBox w (trA t (.slice ai t.ins.length ci) (.slice ao t.outs.length co) (.slice ac t.cells.length cc)) 26
  obtain ⟨-, -, -, -, -, c5, -, -, -⟩ := cells9 HG.out
  have HR := Lib.hid (h.below HB.out)
  have HV := Lib.hid (hv.below HB.out)
  obtain ⟨st, sl, bks, gr, gb, ins, outs, la, cells⟩ := t
  simp only at *
  obtain ⟨n, hn⟩ : ∃ n, l.length = n := ⟨_, rfl⟩
  obtain ⟨m, hm⟩ : ∃ m, ins.length = m := ⟨_, rfl⟩
  have HN := Lib.hid hn
  have HM := Lib.hid hm
  have HK := Lib.hid hk
  rw [hn] at hl HV ⊢
  rw [hm] at hw1 c5 HR ⊢
  clear h hv hn hm hk
  have HI := Lib.hid HR.out.ins
  dsimp only at HI
  clear HR
  obtain ⟨res, hres⟩ : ∃ res, known ins l (k : Int) = res := ⟨_, rfl⟩
  have HRS := Lib.hid hres
  rw [hres]
  clear hres
  go_enter Tryz.func46, Tryz.ntmps46
  go_wp2
  go_loopg [7] n (fun z i wr => ∃ j : Nat, z = n - j ∧ j ≤ n ∧ i = .int .i64 (j : Int) ∧ Hid (Below w1.heap.size w1 wr) ∧ Hid (known ins (l.drop j) (k : Int) = res))
  case atStart => exact ⟨0, rfl, Nat.zero_le _, rfl, Lib.hid (Below.refl _ _), Lib.hid HRS.out⟩
  case round =>
    obtain ⟨j, rfl, hj, rfl, HBR, HJ⟩ := hrel
    have HI := Lib.hid (HI.out.below HBR.out)
    have HV := Lib.hid (HV.out.below HBR.out)
    obtain ⟨-, -, -, -, -, c5, -, -, -⟩ := cells9 (boxOn HG.out HBR.out)
    rw [HM.out] at c5
    have HB := Lib.hid (HB.out.trans (HBR.out.mono HB.out.size))
    by_cases hlt : j < n
    · obtain ⟨p, hp⟩ : ∃ p, l[j]? = some p := ⟨_, List.getElem?_eq_getElem (by rw [HN.out]; exact hlt)⟩
      have HS := Lib.hid (show (okP ins (k : Int) p && known ins (l.drop (j + 1)) (k : Int)) = res by rw [← HJ.out]; exact (all_at hp).symm)
      obtain ⟨ad, rfl, q0⟩ := Reads.at' HV.out hp
      have z0 : (0 : Int) ≤ (j : Int) := by omega
      have z1 : (j : Int) < (n : Int) := by omega
      clear HJ hp
      by_cases hw : 0 ≤ p ∧ p < (k : Int)
      · obtain ⟨pn, rfl⟩ : ∃ pn : Nat, p = (pn : Int) := ⟨p.toNat, by omega⟩
        obtain ⟨x, hx⟩ : ∃ x, ins[pn]? = some x := ⟨_, List.getElem?_eq_getElem (by have := HK.out; omega)⟩
        have HP := Lib.hid (okP_at hx (show pn < k by omega))
        obtain ⟨ad2, rfl, i0, -, -, -, -⟩ := ReadsI.at HI.out hx
        have y1 : (pn : Int) < (m : Int) := by have h1 := (List.getElem?_eq_some_iff.1 hx).1; have h2 := HM.out; omega
        have y0 : (0 : Int) ≤ (pn : Int) := by omega
        obtain ⟨x1, x2⟩ := x
        dsimp only at i0 HP
        have D := Lib.hid (fun w => rgives_any x1 w)
        have d1 : decide ((k : Int) ≤ (pn : Int)) = false := decide_eq_false (by omega)
        have d0 : decide ((pn : Int) < 0) = false := decide_eq_false (by omega)
        have d2 : decide (k ≤ pn) = false := decide_eq_false (by omega)
        clear hw hx
        cases hgv : gives x1 with
        | true =>
          have HS2 := Lib.hid (show known ins (l.drop (j + 1)) (k : Int) = res by rw [← HS.out, HP.out, hgv]; rfl)
          rw [hgv] at D
          clear hgv
          go_wp2_with fail
          go_quiet (first | (go_at_call 18; exact Calls.quiet_of_same (D.out _)))
          go_wp2
          go_roundg (n - (j + 1))
          case measure => omega
          case rel => exact ⟨j + 1, rfl, by omega, by go_num, Lib.hid (HBR.out.trans ((drewN1_below wr _).mono HBR.out.size)), HS2⟩
        | false =>
          have HF := Lib.hid (show res = false by rw [← HS.out, HP.out, hgv]; rfl)
          rw [hgv] at D
          clear hgv
          go_wp2_with fail
          go_quiet (first | (go_at_call 18; exact Calls.quiet_of_same (D.out _)))
          go_wp2
          go_ret
          exact ⟨by rw [HF.out]; rfl, HB.out.trans ((drewN1_below wr _).mono HB.out.size)⟩
      · have HF := Lib.hid (show res = false by rw [← HS.out, okP_no hw]; rfl)
        by_cases hw0 : 0 ≤ p
        · have d1 : decide ((k : Int) ≤ p) = true := decide_eq_true (by omega)
          have d0 : decide (p < 0) = false := decide_eq_false (by omega)
          have HW0 := Lib.hid hw0
          clear hw0
          clear hw
          go_wp2_with fail
          go_quiet (fail)
          go_wp2
          go_ret
          exact ⟨by rw [HF.out]; rfl, HB.out.trans ((drewN1_below wr _).mono HB.out.size)⟩
        · have d0 : decide (p < 0) = true := decide_eq_true (by omega)
          clear hw hw0
          go_wp2_with fail
          go_quiet (fail)
          go_wp2
          go_ret
          exact ⟨by rw [HF.out]; rfl, HB.out.trans ((drewN1_below wr _).mono HB.out.size)⟩
    · obtain rfl : j = n := by omega
      have HF := Lib.hid (show res = true by rw [← HJ.out, drop_end HN.out]; rfl)
      go_wp2
      go_ret
      exact ⟨by rw [HF.out]; rfl, HB.out⟩
end Go.Proofs.YtpecingkoodmfaaGreatDoor.Ir
/- Package ir: does an exit lead? -/
namespace Go.Proofs.YtpecingkoodmfaaGreatDoor.Ir
open Go.RowKit Book Mem
set_option linter.unusedSimpArgs false
set_option linter.unusedVariables false
/-- no list of a trace is too long -/
structure Small (t : T) : Prop where
  ins : t.ins.length ≤ 1000000
  outs : t.outs.length ≤ 1000000
  cells : t.cells.length ≤ 1000000
  stack : ∀ o ∈ t.outs, o.stack.length ≤ 1000000 ∧ o.back.length ≤ 1000000
theorem cellOn {w w' : World} {a : Addr} {v : Value} (hb : Below w.heap.size w w') (h : w.cell? a = some v) : w'.cell? a = some v := by rw [hb.cell (World.block_lt_of_cell? w _ h)]; exact h
theorem on11 {w w' : World} (hb : Below w.heap.size w w') {a0 a1 a2 a3 a4 a5 a6 a7 a8 a9 a10 : Addr} {v0 v1 v2 v3 v4 v5 v6 v7 v8 v9 v10 : Value} (h : w.cell? a0 = some v0 ∧ w.cell? a1 = some v1 ∧ w.cell? a2 = some v2 ∧ w.cell? a3 = some v3 ∧ w.cell? a4 = some v4 ∧ w.cell? a5 = some v5 ∧ w.cell? a6 = some v6 ∧ w.cell? a7 = some v7 ∧ w.cell? a8 = some v8 ∧ w.cell? a9 = some v9 ∧ w.cell? a10 = some v10) :
    w'.cell? a0 = some v0 ∧ w'.cell? a1 = some v1 ∧ w'.cell? a2 = some v2 ∧ w'.cell? a3 = some v3 ∧ w'.cell? a4 = some v4 ∧ w'.cell? a5 = some v5 ∧ w'.cell? a6 = some v6 ∧ w'.cell? a7 = some v7 ∧ w'.cell? a8 = some v8 ∧ w'.cell? a9 = some v9 ∧ w'.cell? a10 = some v10 := by
  obtain ⟨h0, h1, h2, h3, h4, h5, h6, h7, h8, h9, h10⟩ := h
  exact ⟨cellOn hb h0, cellOn hb h1, cellOn hb h2, cellOn hb h3, cellOn hb h4, cellOn hb h5, cellOn hb h6, cellOn hb h7, cellOn hb h8, cellOn hb h9, cellOn hb h10⟩
end Go.Proofs.YtpecingkoodmfaaGreatDoor.Ir
/- What the two answers of chapter 14 lean on both. -/
namespace Go.Proofs.YtpecingkoodmfaaGreatDoor.Ir
open Go.RowKit Book Mem
set_option linter.unusedSimpArgs false
set_option linter.unusedVariables false
theorem takes_all {t : T} (h : takes t = true) : (0 ≤ t.start ∧ t.start ≤ 2999) ∧ (0 ≤ t.slots ∧ t.slots ≤ 48) ∧ (0 ≤ t.grow ∧ t.grow ≤ 48) ∧ (0 ≤ t.backs ∧ t.backs ≤ 48) ∧ (0 ≤ t.growBack ∧ t.growBack ≤ 48) := by
  unfold takes within at h
  simp only [Bool.and_eq_true, decide_eq_true_eq] at h
  obtain ⟨⟨⟨⟨h1, h2⟩, h3⟩, h4⟩, h5⟩ := h
  exact ⟨h1, h2, h3, h4, h5⟩
theorem both {w : World} {g g5 : Nat} {st sl bks gr gb la : Int} {vi vo vc : Value} {op a b c d : Int} (h : w.heap[g]? = some (.cells #[.int .i64 st, .int .i64 sl, .int .i64 bks, .int .i64 gr, .int .i64 gb, vi, vo, .int .i64 la, vc] 26 (0, 0))) (h5 : w.heap[g5]? = some (.cells #[.int .i64 op, .int .i64 a, .int .i64 b, .int .i64 c, .int .i64 d] 42 (0, 0))) :
    w.cell? ⟨g, 0, none⟩ = some (.int .i64 st) ∧ w.cell? ⟨g, 1, none⟩ = some (.int .i64 sl) ∧ w.cell? ⟨g, 2, none⟩ = some (.int .i64 bks) ∧ w.cell? ⟨g, 3, none⟩ = some (.int .i64 gr) ∧ w.cell? ⟨g, 4, none⟩ = some (.int .i64 gb) ∧ w.cell? ⟨g, 5, none⟩ = some vi ∧ w.cell? ⟨g, 6, none⟩ = some vo ∧ w.cell? ⟨g, 7, none⟩ = some (.int .i64 la) ∧ w.cell? ⟨g, 8, none⟩ = some vc ∧ w.cell? ⟨g5, 0, none⟩ = some (.int .i64 op) ∧ w.cell? ⟨g5, 1, none⟩ = some (.int .i64 a) ∧ w.cell? ⟨g5, 2, none⟩ = some (.int .i64 b) ∧ w.cell? ⟨g5, 3, none⟩ = some (.int .i64 c) ∧ w.cell? ⟨g5, 4, none⟩ = some (.int .i64 d) :=
  ⟨whole_cell h rfl, whole_cell h rfl, whole_cell h rfl, whole_cell h rfl, whole_cell h rfl, whole_cell h rfl, whole_cell h rfl, whole_cell h rfl, whole_cell h rfl, whole_cell h5 rfl, whole_cell h5 rfl, whole_cell h5 rfl, whole_cell h5 rfl, whole_cell h5 rfl⟩
theorem usesL_len (x : I) : (usesL x).length ≤ 2 := by
  unfold usesL
  repeat' split
  all_goals simp
theorem outsL_len (x : I) : (outsL x).length ≤ 2 := by
  unfold outsL
  repeat' split
  all_goals simp
theorem rightT_parts (t : T) : rightT t = (decide (t.ins.length ≤ 1000) && (decide (t.outs.length ≤ 300) && (takes t && (rise 0 t.cells && (t.outs.all (outOk t) && (insFrom t 0 t.ins && endOk t)))))) := rfl
end Go.Proofs.YtpecingkoodmfaaGreatDoor.Ir
