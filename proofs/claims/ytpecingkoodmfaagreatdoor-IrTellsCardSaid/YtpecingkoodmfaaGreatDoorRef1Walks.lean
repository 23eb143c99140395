
/- The walks of the document's own answer to chapter 1 (hollowayref1: cells). -/
import Derived.Test.YtpecingkoodmfaaGreatDoorCellWalks
namespace Go.Proofs.YtpecingkoodmfaaGreatDoor.Cell
open Go.RowKit

theorem ref_rest {a b : Int} (ib : In b) (hb : b ≠ 0) : wrap64 (a - wrap64 (wrap64 (a.tdiv b) * b)) = a.tmod b := by
  have h1 : In (a.tmod b) := by
    unfold In at *
    rcases Int.lt_or_gt_of_ne hb with h | h
    · have e : a.tmod b = a.tmod (-b) := (Int.tmod_neg a b).symm
      have := Int.tmod_lt_of_pos a (show 0 < -b by omega)
      have := Int.lt_tmod_of_pos a (show 0 < -b by omega)
      omega
    · have := Int.tmod_lt_of_pos a h
      have := Int.lt_tmod_of_pos a h
      omega
  rw [wrap_mul_left]
  have h2 : wrap64 (a - wrap64 (a.tdiv b * b)) = wrap64 (a - a.tdiv b * b) := by unfold wrap64; omega
  rw [h2, ← wrap_of h1, Int.tmod_def, Int.mul_comm b]
set_option maxHeartbeats 400000 in
theorem ref_floor (a b : Int) (ib : In b) (hb : (b == 0) = false) (w : World) :
    Calls Tryz.prog 109 #[.int .i64 a, .int .i64 b] w fun e w' => e = .returned (.tuple #[.int .i64 (fq a b), .int .i64 (fr a b)]) ∧ w = w' := by
  have hb' : b ≠ 0 := by simpa using hb
  have hr := ref_rest (a := a) ib hb'
  go_enter Tryz.func109, Tryz.ntmps109
  go_wp2
  · go_ret2
    exact ⟨retQ (floor1 ‹_›).1 (floor1 ‹_›).2, rfl⟩
  · go_ret2
    exact ⟨retQ (floor2 hb' ib ‹_› ‹_›).1 (floor2 hb' ib ‹_› ‹_›).2, rfl⟩
  · go_ret2
    exact ⟨retQ (floor3 ‹_› ‹_›).1 (floor3 ‹_› ‹_›).2, rfl⟩
set_option maxHeartbeats 400000 in
theorem ref_flag (b : Bool) (w : World) :
    Calls Tryz.prog 110 #[.bool b] w fun e w' => e = .returned (.int .i64 (flag b)) ∧ w = w' := by
  cases b
  all_goals
    go_enter Tryz.func110, Tryz.ntmps110
    go_wp2
    go_ret
    exact ⟨rfl, rfl⟩
def isTwo (op : Int) : Bool := decide (11 ≤ op ∧ op ≤ 15 ∨ 17 ≤ op ∧ op ≤ 19 ∨ 21 ≤ op ∧ op ≤ 25 ∨ op = 28 ∨ op = 29)
set_option maxHeartbeats 400000 in
theorem ref_isTwo (op : Int) (w : World) :
    Calls Tryz.prog 19 #[.int .i64 op] w fun e w' => e = .returned (.bool (isTwo op)) ∧ w = w' := by
  rcases op_cases op with h | h | rfl | rfl | rfl | rfl | rfl | rfl | rfl | rfl | rfl | rfl | rfl | rfl | rfl | rfl | rfl | rfl | rfl | rfl | rfl
  · have e : isTwo op = false := by unfold isTwo; rw [decide_eq_false_iff_not]; omega
    rw [e]; clear e
    go_enter Tryz.func19, Tryz.ntmps19
    go_wp2
    go_ret
    exact ⟨retB (by simp; omega), rfl⟩
  · have e : isTwo op = false := by unfold isTwo; rw [decide_eq_false_iff_not]; omega
    rw [e]; clear e
    go_enter Tryz.func19, Tryz.ntmps19
    go_wp2
    go_ret
    exact ⟨retB (by simp; omega), rfl⟩
  all_goals
    go_enter Tryz.func19, Tryz.ntmps19
    go_wp2
    go_ret
    exact ⟨rfl, rfl⟩
set_option maxHeartbeats 1000000 in
theorem ref_one (op a : Int) (ia : In a) (w : World) :
    Calls Tryz.prog 87 #[.int .i64 op, .int .i64 a] w (Tells (one op a) w) := by
  rcases op_cases op with h | h | rfl | rfl | rfl | rfl | rfl | rfl | rfl | rfl | rfl | rfl | rfl | rfl | rfl | rfl | rfl | rfl | rfl | rfl | rfl
  · rw [one_lo h]; go_enter Tryz.func87, Tryz.ntmps87
    go_wp2
    go_ret2; exact ⟨ret2 rfl rfl, 0, rfl⟩
  · rw [one_hi h]; go_enter Tryz.func87, Tryz.ntmps87
    go_wp2
    go_ret2; exact ⟨ret2 rfl rfl, 0, rfl⟩
  all_goals
    go_enter Tryz.func87, Tryz.ntmps87
    go_wp2_with (go_at_call 110; refine (ref_flag _ _).mono ?_; rintro e w' ⟨rfl, rfl⟩)
    go_ret2; exact ⟨ret2 (by first | rfl | exact not_sub ia) rfl, 0, rfl⟩
/-- the reference's shift after k rounds -/
def shN (l : Bool) (a : Int) (k : Nat) : Int := if l then (uns a * 2 ^ k) % 18446744073709551616 else uns a / 2 ^ k
theorem shN_in (l : Bool) (a : Int) (k : Nat) : 0 ≤ shN l a k ∧ shN l a k < 18446744073709551616 := by
  have h := uns_lt a
  unfold shN
  split
  · omega
  · have hp : (0 : Int) < 2 ^ k := Int.pow_pos (by decide)
    exact ⟨Int.ediv_nonneg h.1 (by omega), Int.lt_of_le_of_lt (Int.ediv_le_self _ h.1) h.2⟩
theorem shN_left (a : Int) (k : Nat) : IntKind.u64.wrap (shN true a k * 2) = shN true a (k + 1) := by
  simp only [shN, if_true, IntKind.wrap_u64, Int.pow_succ]
  rw [← Int.mul_assoc, Int.mul_emod (uns a * 2 ^ k) 2, Int.mul_emod (uns a * 2 ^ k % _) 2, Int.emod_emod_of_dvd _ (Int.dvd_refl _)]
theorem shN_right (a : Int) (k : Nat) : shN false a k / 2 = shN false a (k + 1) := by
  simp only [shN, Bool.false_eq_true, if_false, Int.pow_succ]
  rw [Int.ediv_ediv_of_nonneg (Int.pow_nonneg (by decide))]
theorem shN_zero (l : Bool) (a : Int) : IntKind.u64.wrap a = shN l a 0 := by
  have h := uns_lt a
  rw [uns_of]; unfold shN; cases l <;> simp <;> omega
theorem shN_end_left {a b : Int} (h0 : 0 ≤ b) (h1 : b ≤ 63) : wrap64 (shN true a b.toNat) = (two 21 a b).1 := by
  show _ = shl a b
  unfold shl; rw [if_neg (by omega)]
  simp only [shN, if_true]
  rw [← wrap_mul_left a, ← wrap_uns a, wrap_mul_left]
  unfold wrap64; omega
theorem shN_end_right {a b : Int} (h0 : 0 ≤ b) (h1 : b ≤ 63) : wrap64 (shN false a b.toNat) = (two 22 a b).1 := by
  show _ = shr a b
  unfold shr; rw [if_neg (by omega)]
  simp only [shN, Bool.false_eq_true, if_false]

theorem isTwo_lo {op : Int} (h : op < 11) : isTwo op = false := by unfold isTwo; rw [decide_eq_false_iff_not]; omega
theorem isTwo_hi {op : Int} (h : 29 < op) : isTwo op = false := by unfold isTwo; rw [decide_eq_false_iff_not]; omega
set_option maxHeartbeats 400000 in
theorem ref_shift_left (a b : Int) (h0 : 0 ≤ b) (h1 : b ≤ 63) (w : World) :
    Calls Tryz.prog 86 #[.int .i64 21, .int .i64 a, .int .i64 b] w (Tells (two 21 a b) w) := by
  go_enter Tryz.func86, Tryz.ntmps86
  go_wp2_with (first | (go_at_call 19; refine (ref_isTwo _ _).mono ?_; rintro e w' ⟨rfl, rfl⟩) | (go_at_call 110; refine (ref_flag _ _).mono ?_; rintro e w' ⟨rfl, rfl⟩))
  go_loop [10, 11] (fun x i => ∃ k : Nat, k ≤ b.toNat ∧ i = .int .i64 k ∧ x = .int .u64 (shN true a k)) (fun _ i => b.toNat - (intOf i).toNat)
  case atStart => exact ⟨0, Nat.zero_le _, rfl, by rw [shN_zero true]⟩
  case round =>
    obtain ⟨k, hk, rfl, rfl⟩ := hrel
    by_cases hlt : (k : Int) < b
    · go_wp2
      go_round
      case rel => exact ⟨k + 1, by omega, by go_num, by rw [shN_left]⟩
      case measure => simp [intOf]; omega
    · go_wp2
      go_ret2
      obtain rfl : k = b.toNat := by omega
      exact ⟨ret2 (shN_end_left h0 h1) rfl, 0, rfl⟩
set_option maxHeartbeats 400000 in
theorem ref_shift_right (a b : Int) (h0 : 0 ≤ b) (h1 : b ≤ 63) (w : World) :
    Calls Tryz.prog 86 #[.int .i64 22, .int .i64 a, .int .i64 b] w (Tells (two 22 a b) w) := by
  go_enter Tryz.func86, Tryz.ntmps86
  go_wp2_with (first | (go_at_call 19; refine (ref_isTwo _ _).mono ?_; rintro e w' ⟨rfl, rfl⟩) | (go_at_call 110; refine (ref_flag _ _).mono ?_; rintro e w' ⟨rfl, rfl⟩))
  go_loop [10, 11] (fun x i => ∃ k : Nat, k ≤ b.toNat ∧ i = .int .i64 k ∧ x = .int .u64 (shN false a k)) (fun _ i => b.toNat - (intOf i).toNat)
  case atStart => exact ⟨0, Nat.zero_le _, rfl, by rw [shN_zero false]⟩
  case round =>
    obtain ⟨k, hk, rfl, rfl⟩ := hrel
    have hx := shN_in false a k
    by_cases hlt : (k : Int) < b
    · go_wp2
      go_round
      case rel => exact ⟨k + 1, by omega, by go_num, by first | rw [shN_right] | trace_state⟩
      case measure => simp [intOf]; omega
    · go_wp2
      go_ret2
      obtain rfl : k = b.toNat := by omega
      exact ⟨ret2 (shN_end_right h0 h1) rfl, 0, rfl⟩
set_option maxHeartbeats 2000000 in
theorem ref_two (op a b : Int) (ib : In b) (w : World) :
    Calls Tryz.prog 86 #[.int .i64 op, .int .i64 a, .int .i64 b] w (Tells (two op a b) w) := by
  rcases op_cases op with h | h | rfl | rfl | rfl | rfl | rfl | rfl | rfl | rfl | rfl | rfl | rfl | rfl | rfl | rfl | rfl | rfl | rfl | rfl | rfl
  · rw [two_lo h]
    have g := isTwo_lo h
    go_enter Tryz.func86, Tryz.ntmps86
    go_wp2_with (first | (go_at_call 19; refine (ref_isTwo _ _).mono ?_; rintro e w' ⟨rfl, rfl⟩) | (go_at_call 110; refine (ref_flag _ _).mono ?_; rintro e w' ⟨rfl, rfl⟩))
    go_ret2; exact ⟨ret2 rfl rfl, 0, rfl⟩
  · rw [two_hi h]
    have g := isTwo_hi h
    go_enter Tryz.func86, Tryz.ntmps86
    go_wp2_with (first | (go_at_call 19; refine (ref_isTwo _ _).mono ?_; rintro e w' ⟨rfl, rfl⟩) | (go_at_call 110; refine (ref_flag _ _).mono ?_; rintro e w' ⟨rfl, rfl⟩))
    go_ret2; exact ⟨ret2 rfl rfl, 0, rfl⟩
  case' inr.inr.inr.inr.inr.inl =>
    by_cases hb : b = 0
    · subst hb; go_enter Tryz.func86, Tryz.ntmps86
      go_wp2_with (first | (go_at_call 19; refine (ref_isTwo _ _).mono ?_; rintro e w' ⟨rfl, rfl⟩) | (go_at_call 110; refine (ref_flag _ _).mono ?_; rintro e w' ⟨rfl, rfl⟩))
      go_ret2; exact ⟨ret2 rfl rfl, 0, rfl⟩
    · rw [two_14 hb]
      have hb' : (b == 0) = false := by simpa using hb
      clear hb
      go_enter Tryz.func86, Tryz.ntmps86
      go_wp2_with (first | (go_at_call 109; refine (ref_floor _ _ ib hb' _).mono ?_; rintro e w' ⟨rfl, rfl⟩) | (go_at_call 19; refine (ref_isTwo _ _).mono ?_; rintro e w' ⟨rfl, rfl⟩))
      go_ret2; exact ⟨ret2 rfl rfl, 0, rfl⟩
  case' inr.inr.inr.inr.inr.inr.inl =>
    by_cases hb : b = 0
    · subst hb; go_enter Tryz.func86, Tryz.ntmps86
      go_wp2_with (first | (go_at_call 19; refine (ref_isTwo _ _).mono ?_; rintro e w' ⟨rfl, rfl⟩) | (go_at_call 110; refine (ref_flag _ _).mono ?_; rintro e w' ⟨rfl, rfl⟩))
      go_ret2; exact ⟨ret2 rfl rfl, 0, rfl⟩
    · rw [two_15 hb]
      have hb' : (b == 0) = false := by simpa using hb
      clear hb
      go_enter Tryz.func86, Tryz.ntmps86
      go_wp2_with (first | (go_at_call 109; refine (ref_floor _ _ ib hb' _).mono ?_; rintro e w' ⟨rfl, rfl⟩) | (go_at_call 19; refine (ref_isTwo _ _).mono ?_; rintro e w' ⟨rfl, rfl⟩))
      go_ret2; exact ⟨ret2 rfl rfl, 0, rfl⟩
  case' inr.inr.inr.inr.inr.inr.inr.inr.inr.inr.inr.inr.inl =>
    by_cases h0 : b < 0 ∨ 63 < b
    · rw [show two 21 a b = (0, true) from by show (shl a b, true) = _; unfold shl; rw [if_pos h0]]
      rcases h0 with h0 | h0
      · go_enter Tryz.func86, Tryz.ntmps86
        go_wp2_with (first | (go_at_call 19; refine (ref_isTwo _ _).mono ?_; rintro e w' ⟨rfl, rfl⟩) | (go_at_call 110; refine (ref_flag _ _).mono ?_; rintro e w' ⟨rfl, rfl⟩))
        go_ret2; exact ⟨ret2 rfl rfl, 0, rfl⟩
      · go_enter Tryz.func86, Tryz.ntmps86
        go_wp2_with (first | (go_at_call 19; refine (ref_isTwo _ _).mono ?_; rintro e w' ⟨rfl, rfl⟩) | (go_at_call 110; refine (ref_flag _ _).mono ?_; rintro e w' ⟨rfl, rfl⟩))
        go_ret2; exact ⟨ret2 rfl rfl, 0, rfl⟩
    · exact ref_shift_left a b (by omega) (by omega) w
  case' inr.inr.inr.inr.inr.inr.inr.inr.inr.inr.inr.inr.inr.inl =>
    by_cases h0 : b < 0 ∨ 63 < b
    · rw [show two 22 a b = (0, true) from by show (shr a b, true) = _; unfold shr; rw [if_pos h0]]
      rcases h0 with h0 | h0
      · go_enter Tryz.func86, Tryz.ntmps86
        go_wp2_with (first | (go_at_call 19; refine (ref_isTwo _ _).mono ?_; rintro e w' ⟨rfl, rfl⟩) | (go_at_call 110; refine (ref_flag _ _).mono ?_; rintro e w' ⟨rfl, rfl⟩))
        go_ret2; exact ⟨ret2 rfl rfl, 0, rfl⟩
      · go_enter Tryz.func86, Tryz.ntmps86
        go_wp2_with (first | (go_at_call 19; refine (ref_isTwo _ _).mono ?_; rintro e w' ⟨rfl, rfl⟩) | (go_at_call 110; refine (ref_flag _ _).mono ?_; rintro e w' ⟨rfl, rfl⟩))
        go_ret2; exact ⟨ret2 rfl rfl, 0, rfl⟩
    · exact ref_shift_right a b (by omega) (by omega) w
  all_goals
    go_enter Tryz.func86, Tryz.ntmps86
    go_wp2_with (first | (go_at_call 19; refine (ref_isTwo _ _).mono ?_; rintro e w' ⟨rfl, rfl⟩) | (go_at_call 110; refine (ref_flag _ _).mono ?_; rintro e w' ⟨rfl, rfl⟩))
    all_goals go_ret2
    all_goals exact ⟨ret2 (by first | rfl | (show _ = flag _; rw [uns_of, uns_of]; rfl) | (show _ = min a b; omega) | (show _ = max a b; omega)) rfl, 0, rfl⟩
end Go.Proofs.YtpecingkoodmfaaGreatDoor.Cell
