
/- The walks of the document's own answer to chapter 1 (hollowayref1: cells). -/
import Derived.Test.YtgabemlehmhgpaaDoorCellWalks
namespace Go.Proofs.YtgabemlehmhgpaaDoor.Cell
open Go.RowKit

theorem ref_rest {a b : Int} (ib : In b) (hb : b ≠ 0) : wrap64 (a - wrap64 (wrap64 (a.tdiv b) * b)) = a.tmod b := by
  have h1 : In (a.tmod b) := by
    unfold In at *
    rcases Int.lt_or_gt_of_ne hb with h | h
    · have e : a.tmod b = a.tmod (-b) := (Int.tmod_neg a b).symm
      have := Int.tmod_lt_of_pos a (show 0 < -b by omega)
      have := Int.lt_tmod_of_pos a (show 0 < -b by omega)
      omega
    · have := Int.tmod_lt_of_pos a h
      have := Int.lt_tmod_of_pos a h
      omega
  rw [wrap_mul_left]
  have h2 : wrap64 (a - wrap64 (a.tdiv b * b)) = wrap64 (a - a.tdiv b * b) := by unfold wrap64; omega
  rw [h2, ← wrap_of h1, Int.tmod_def, Int.mul_comm b]
def isTwo (op : Int) : Bool := decide (11 ≤ op ∧ op ≤ 15 ∨ 17 ≤ op ∧ op ≤ 19 ∨ 21 ≤ op ∧ op ≤ 25 ∨ op = 28 ∨ op = 29)
set_option maxHeartbeats 400000 in
theorem ref_isTwo (op : Int) (w : World) :
    Calls Tryd.prog 13 #[.int .i64 op] w fun e w' => e = .returned (.bool (isTwo op)) ∧ w = w' := by
  rcases op_cases op with h | h | rfl | rfl | rfl | rfl | rfl | rfl | rfl | rfl | rfl | rfl | rfl | rfl | rfl | rfl | rfl | rfl | rfl | rfl | rfl
  · have e : isTwo op = false := by unfold isTwo; rw [decide_eq_false_iff_not]; omega
    rw [e]; clear e
    go_enter Tryd.func13, Tryd.ntmps13
    go_wp2
    go_ret
    exact ⟨retB (by simp; omega), rfl⟩
  · have e : isTwo op = false := by unfold isTwo; rw [decide_eq_false_iff_not]; omega
    rw [e]; clear e
    go_enter Tryd.func13, Tryd.ntmps13
    go_wp2
    go_ret
    exact ⟨retB (by simp; omega), rfl⟩
  all_goals
    go_enter Tryd.func13, Tryd.ntmps13
    go_wp2
    go_ret
    exact ⟨rfl, rfl⟩
/-- the reference's shift after k rounds -/
def shN (l : Bool) (a : Int) (k : Nat) : Int := if l then (uns a * 2 ^ k) % 18446744073709551616 else uns a / 2 ^ k
theorem shN_in (l : Bool) (a : Int) (k : Nat) : 0 ≤ shN l a k ∧ shN l a k < 18446744073709551616 := by
  have h := uns_lt a
  unfold shN
  split
  · omega
  · have hp : (0 : Int) < 2 ^ k := Int.pow_pos (by decide)
    exact ⟨Int.ediv_nonneg h.1 (by omega), Int.lt_of_le_of_lt (Int.ediv_le_self _ h.1) h.2⟩
theorem shN_left (a : Int) (k : Nat) : IntKind.u64.wrap (shN true a k * 2) = shN true a (k + 1) := by
  simp only [shN, if_true, IntKind.wrap_u64, Int.pow_succ]
  rw [← Int.mul_assoc, Int.mul_emod (uns a * 2 ^ k) 2, Int.mul_emod (uns a * 2 ^ k % _) 2, Int.emod_emod_of_dvd _ (Int.dvd_refl _)]
theorem shN_right (a : Int) (k : Nat) : shN false a k / 2 = shN false a (k + 1) := by
  simp only [shN, Bool.false_eq_true, if_false, Int.pow_succ]
  rw [Int.ediv_ediv_of_nonneg (Int.pow_nonneg (by decide))]
theorem shN_zero (l : Bool) (a : Int) : IntKind.u64.wrap a = shN l a 0 := by
  have h := uns_lt a
  rw [uns_of]; unfold shN; cases l <;> simp <;> omega
theorem shN_end_left {a b : Int} (h0 : 0 ≤ b) (h1 : b ≤ 63) : wrap64 (shN true a b.toNat) = (two 21 a b).1 := by
  show _ = shl a b
  unfold shl; rw [if_neg (by omega)]
  simp only [shN, if_true]
  rw [← wrap_mul_left a, ← wrap_uns a, wrap_mul_left]
  unfold wrap64; omega
theorem shN_end_right {a b : Int} (h0 : 0 ≤ b) (h1 : b ≤ 63) : wrap64 (shN false a b.toNat) = (two 22 a b).1 := by
  show _ = shr a b
  unfold shr; rw [if_neg (by omega)]
  simp only [shN, Bool.false_eq_true, if_false]

theorem isTwo_lo {op : Int} (h : op < 11) : isTwo op = false := by unfold isTwo; rw [decide_eq_false_iff_not]; omega
theorem isTwo_hi {op : Int} (h : 29 < op) : isTwo op = false := by unfold isTwo; rw [decide_eq_false_iff_not]; omega
end Go.Proofs.YtgabemlehmhgpaaDoor.Cell
