/- The walks of the document's own answer to chapter 1 (hollowayref1: cells). -/
import Derived.Test.YtcffbeihgchpgaaGreatDoorG4
import Derived.RowKit
import Derived.Lib.ItoaNum
import Derived.Lib.Case
import Derived.WalkKit
import Derived.Test.YtcffbeihgchpgaaGreatDoorRows
import Derived.WalkSpells
import Derived.WalkLawsBesides
import Derived.Lib.Hide
import Derived.Lib.Strings
import Derived.Deep.DeepCutAuto
import Derived.Deep.LoopGhost
namespace Go.Proofs.YtcffbeihgchpgaaGreatDoor.Cell
open Go.RowKit

theorem ref_rest {a b : Int} (ib : In b) (hb : b ≠ 0) : wrap64 (a - wrap64 (wrap64 (a.tdiv b) * b)) = a.tmod b := by
  have h1 : In (a.tmod b) := by
    unfold In at *
    rcases Int.lt_or_gt_of_ne hb with h | h
    · have e : a.tmod b = a.tmod (-b) := (Int.tmod_neg a b).symm
      have := Int.tmod_lt_of_pos a (show 0 < -b by omega)
      have := Int.lt_tmod_of_pos a (show 0 < -b by omega)
      omega
    · have := Int.tmod_lt_of_pos a h
      have := Int.lt_tmod_of_pos a h
      omega
  rw [wrap_mul_left]
  have h2 : wrap64 (a - wrap64 (a.tdiv b * b)) = wrap64 (a - a.tdiv b * b) := by unfold wrap64; omega
  rw [h2, ← wrap_of h1, Int.tmod_def, Int.mul_comm b]
set_option maxHeartbeats 400000 in
theorem ref_floor (a b : Int) (ib : In b) (hb : (b == 0) = false) (w : World) :
    Calls Tryz.prog 91 #[.int .i64 a, .int .i64 b] w fun e w' => e = .returned (.tuple #[.int .i64 (fq a b), .int .i64 (fr a b)]) ∧ w = w' := by
  have hb' : b ≠ 0 := by simpa using hb
  have hr := ref_rest (a := a) ib hb'
  go_enter Tryz.func91, Tryz.ntmps91
  go_wp2
  · go_ret2
    exact ⟨retQ (floor1 ‹_›).1 (floor1 ‹_›).2, rfl⟩
  · go_ret2
    exact ⟨retQ (floor2 hb' ib ‹_› ‹_›).1 (floor2 hb' ib ‹_› ‹_›).2, rfl⟩
  · go_ret2
    exact ⟨retQ (floor3 ‹_› ‹_›).1 (floor3 ‹_› ‹_›).2, rfl⟩
set_option maxHeartbeats 400000 in
theorem ref_crosses (x n : Int) (w : World) :
    Calls Tryz.prog 57 #[.int .i64 x, .int .i64 n] w fun e w' => e = .returned (.bool (crosses x n)) ∧ w = w' := by
  go_enter Tryz.func57, Tryz.ntmps57
  go_wp2
  go_ret
  exact ⟨rfl, rfl⟩
set_option maxHeartbeats 400000 in
theorem ref_flag (b : Bool) (w : World) :
    Calls Tryz.prog 92 #[.bool b] w fun e w' => e = .returned (.int .i64 (flag b)) ∧ w = w' := by
  cases b
  all_goals
    go_enter Tryz.func92, Tryz.ntmps92
    go_wp2
    go_ret
    exact ⟨rfl, rfl⟩
def isTwo (op : Int) : Bool := decide (11 ≤ op ∧ op ≤ 15 ∨ 17 ≤ op ∧ op ≤ 19 ∨ 21 ≤ op ∧ op ≤ 25 ∨ op = 28 ∨ op = 29)
set_option maxHeartbeats 400000 in
theorem ref_isTwo (op : Int) (w : World) :
    Calls Tryz.prog 53 #[.int .i64 op] w fun e w' => e = .returned (.bool (isTwo op)) ∧ w = w' := by
  rcases op_cases op with h | h | rfl | rfl | rfl | rfl | rfl | rfl | rfl | rfl | rfl | rfl | rfl | rfl | rfl | rfl | rfl | rfl | rfl | rfl | rfl
  · have e : isTwo op = false := by unfold isTwo; rw [decide_eq_false_iff_not]; omega
    rw [e]; clear e
    go_enter Tryz.func53, Tryz.ntmps53
    go_wp2
    go_ret
    exact ⟨retB (by simp; omega), rfl⟩
  · have e : isTwo op = false := by unfold isTwo; rw [decide_eq_false_iff_not]; omega
    rw [e]; clear e
    go_enter Tryz.func53, Tryz.ntmps53
    go_wp2
    go_ret
    exact ⟨retB (by simp; omega), rfl⟩
  all_goals
    go_enter Tryz.func53, Tryz.ntmps53
    go_wp2
    go_ret
    exact ⟨rfl, rfl⟩
set_option maxHeartbeats 1000000 in
theorem ref_one (op a : Int) (ia : In a) (w : World) :
    Calls Tryz.prog 56 #[.int .i64 op, .int .i64 a] w (Tells (one op a) w) := by
  rcases op_cases op with h | h | rfl | rfl | rfl | rfl | rfl | rfl | rfl | rfl | rfl | rfl | rfl | rfl | rfl | rfl | rfl | rfl | rfl | rfl | rfl
  · rw [one_lo h]; go_enter Tryz.func56, Tryz.ntmps56
    go_wp2
    go_ret2; exact ⟨ret2 rfl rfl, 0, rfl⟩
  · rw [one_hi h]; go_enter Tryz.func56, Tryz.ntmps56
    go_wp2
    go_ret2; exact ⟨ret2 rfl rfl, 0, rfl⟩
  all_goals
    go_enter Tryz.func56, Tryz.ntmps56
    go_wp2_with (go_at_call 92; refine (ref_flag _ _).mono ?_; rintro e w' ⟨rfl, rfl⟩)
    go_ret2; exact ⟨ret2 (by first | rfl | exact not_sub ia) rfl, 0, rfl⟩
/-- the reference's shift after k rounds -/
def shN (l : Bool) (a : Int) (k : Nat) : Int := if l then (uns a * 2 ^ k) % 18446744073709551616 else uns a / 2 ^ k
theorem shN_in (l : Bool) (a : Int) (k : Nat) : 0 ≤ shN l a k ∧ shN l a k < 18446744073709551616 := by
  have h := uns_lt a
  unfold shN
  split
  · omega
  · have hp : (0 : Int) < 2 ^ k := Int.pow_pos (by decide)
    exact ⟨Int.ediv_nonneg h.1 (by omega), Int.lt_of_le_of_lt (Int.ediv_le_self _ h.1) h.2⟩
theorem shN_left (a : Int) (k : Nat) : IntKind.u64.wrap (shN true a k * 2) = shN true a (k + 1) := by
  simp only [shN, if_true, IntKind.wrap_u64, Int.pow_succ]
  rw [← Int.mul_assoc, Int.mul_emod (uns a * 2 ^ k) 2, Int.mul_emod (uns a * 2 ^ k % _) 2, Int.emod_emod_of_dvd _ (Int.dvd_refl _)]
theorem shN_right (a : Int) (k : Nat) : shN false a k / 2 = shN false a (k + 1) := by
  simp only [shN, Bool.false_eq_true, if_false, Int.pow_succ]
  rw [Int.ediv_ediv_of_nonneg (Int.pow_nonneg (by decide))]
theorem shN_zero (l : Bool) (a : Int) : IntKind.u64.wrap a = shN l a 0 := by
  have h := uns_lt a
  rw [uns_of]; unfold shN; cases l <;> simp <;> omega
theorem shN_end_left {a b : Int} (h0 : 0 ≤ b) (h1 : b ≤ 63) : wrap64 (shN true a b.toNat) = (two 21 a b).1 := by
  show _ = shl a b
  unfold shl; rw [if_neg (by omega)]
  simp only [shN, if_true]
  rw [← wrap_mul_left a, ← wrap_uns a, wrap_mul_left]
  unfold wrap64; omega
theorem shN_end_right {a b : Int} (h0 : 0 ≤ b) (h1 : b ≤ 63) : wrap64 (shN false a b.toNat) = (two 22 a b).1 := by
  show _ = shr a b
  unfold shr; rw [if_neg (by omega)]
  simp only [shN, Bool.false_eq_true, if_false]

theorem isTwo_lo {op : Int} (h : op < 11) : isTwo op = false := by unfold isTwo; rw [decide_eq_false_iff_not]; omega
theorem isTwo_hi {op : Int} (h : 29 < op) : isTwo op = false := by unfold isTwo; rw [decide_eq_false_iff_not]; omega
set_option maxHeartbeats 400000 in
theorem ref_shift_left (a b : Int) (h0 : 0 ≤ b) (h1 : b ≤ 63) (w : World) :
    Calls Tryz.prog 54 #[.int .i64 21, .int .i64 a, .int .i64 b] w (Tells (two 21 a b) w) := by
  go_enter Tryz.func54, Tryz.ntmps54
  go_wp2_with (first | (go_at_call 53; refine (ref_isTwo _ _).mono ?_; rintro e w' ⟨rfl, rfl⟩) | (go_at_call 92; refine (ref_flag _ _).mono ?_; rintro e w' ⟨rfl, rfl⟩))
  go_loop [10, 11] (fun x i => ∃ k : Nat, k ≤ b.toNat ∧ i = .int .i64 k ∧ x = .int .u64 (shN true a k)) (fun _ i => b.toNat - (intOf i).toNat)
  case atStart => exact ⟨0, Nat.zero_le _, rfl, by rw [shN_zero true]⟩
  case round =>
    obtain ⟨k, hk, rfl, rfl⟩ := hrel
    by_cases hlt : (k : Int) < b
    · go_wp2
      go_round
      case rel => exact ⟨k + 1, by omega, by go_num, by rw [shN_left]⟩
      case measure => simp [intOf]; omega
    · go_wp2
      go_ret2
      obtain rfl : k = b.toNat := by omega
      exact ⟨ret2 (shN_end_left h0 h1) rfl, 0, rfl⟩
set_option maxHeartbeats 400000 in
theorem ref_shift_right (a b : Int) (h0 : 0 ≤ b) (h1 : b ≤ 63) (w : World) :
    Calls Tryz.prog 54 #[.int .i64 22, .int .i64 a, .int .i64 b] w (Tells (two 22 a b) w) := by
  go_enter Tryz.func54, Tryz.ntmps54
  go_wp2_with (first | (go_at_call 53; refine (ref_isTwo _ _).mono ?_; rintro e w' ⟨rfl, rfl⟩) | (go_at_call 92; refine (ref_flag _ _).mono ?_; rintro e w' ⟨rfl, rfl⟩))
  go_loop [10, 11] (fun x i => ∃ k : Nat, k ≤ b.toNat ∧ i = .int .i64 k ∧ x = .int .u64 (shN false a k)) (fun _ i => b.toNat - (intOf i).toNat)
  case atStart => exact ⟨0, Nat.zero_le _, rfl, by rw [shN_zero false]⟩
  case round =>
    obtain ⟨k, hk, rfl, rfl⟩ := hrel
    have hx := shN_in false a k
    by_cases hlt : (k : Int) < b
    · go_wp2
      go_round
      case rel => exact ⟨k + 1, by omega, by go_num, by first | rw [shN_right] | trace_state⟩
      case measure => simp [intOf]; omega
    · go_wp2
      go_ret2
      obtain rfl : k = b.toNat := by omega
      exact ⟨ret2 (shN_end_right h0 h1) rfl, 0, rfl⟩
set_option maxHeartbeats 2000000 in
theorem ref_two (op a b : Int) (ib : In b) (w : World) :
    Calls Tryz.prog 54 #[.int .i64 op, .int .i64 a, .int .i64 b] w (Tells (two op a b) w) := by
  rcases op_cases op with h | h | rfl | rfl | rfl | rfl | rfl | rfl | rfl | rfl | rfl | rfl | rfl | rfl | rfl | rfl | rfl | rfl | rfl | rfl | rfl
  · rw [two_lo h]
    have g := isTwo_lo h
    go_enter Tryz.func54, Tryz.ntmps54
    go_wp2_with (first | (go_at_call 53; refine (ref_isTwo _ _).mono ?_; rintro e w' ⟨rfl, rfl⟩) | (go_at_call 92; refine (ref_flag _ _).mono ?_; rintro e w' ⟨rfl, rfl⟩))
    go_ret2; exact ⟨ret2 rfl rfl, 0, rfl⟩
  · rw [two_hi h]
    have g := isTwo_hi h
    go_enter Tryz.func54, Tryz.ntmps54
    go_wp2_with (first | (go_at_call 53; refine (ref_isTwo _ _).mono ?_; rintro e w' ⟨rfl, rfl⟩) | (go_at_call 92; refine (ref_flag _ _).mono ?_; rintro e w' ⟨rfl, rfl⟩))
    go_ret2; exact ⟨ret2 rfl rfl, 0, rfl⟩
  case' inr.inr.inr.inr.inr.inl =>
    by_cases hb : b = 0
    · subst hb; go_enter Tryz.func54, Tryz.ntmps54
      go_wp2_with (first | (go_at_call 53; refine (ref_isTwo _ _).mono ?_; rintro e w' ⟨rfl, rfl⟩) | (go_at_call 92; refine (ref_flag _ _).mono ?_; rintro e w' ⟨rfl, rfl⟩))
      go_ret2; exact ⟨ret2 rfl rfl, 0, rfl⟩
    · rw [two_14 hb]
      have hb' : (b == 0) = false := by simpa using hb
      clear hb
      go_enter Tryz.func54, Tryz.ntmps54
      go_wp2_with (first | (go_at_call 91; refine (ref_floor _ _ ib hb' _).mono ?_; rintro e w' ⟨rfl, rfl⟩) | (go_at_call 53; refine (ref_isTwo _ _).mono ?_; rintro e w' ⟨rfl, rfl⟩))
      go_ret2; exact ⟨ret2 rfl rfl, 0, rfl⟩
  case' inr.inr.inr.inr.inr.inr.inl =>
    by_cases hb : b = 0
    · subst hb; go_enter Tryz.func54, Tryz.ntmps54
      go_wp2_with (first | (go_at_call 53; refine (ref_isTwo _ _).mono ?_; rintro e w' ⟨rfl, rfl⟩) | (go_at_call 92; refine (ref_flag _ _).mono ?_; rintro e w' ⟨rfl, rfl⟩))
      go_ret2; exact ⟨ret2 rfl rfl, 0, rfl⟩
    · rw [two_15 hb]
      have hb' : (b == 0) = false := by simpa using hb
      clear hb
      go_enter Tryz.func54, Tryz.ntmps54
      go_wp2_with (first | (go_at_call 91; refine (ref_floor _ _ ib hb' _).mono ?_; rintro e w' ⟨rfl, rfl⟩) | (go_at_call 53; refine (ref_isTwo _ _).mono ?_; rintro e w' ⟨rfl, rfl⟩))
      go_ret2; exact ⟨ret2 rfl rfl, 0, rfl⟩
  case' inr.inr.inr.inr.inr.inr.inr.inr.inr.inr.inr.inr.inl =>
    by_cases h0 : b < 0 ∨ 63 < b
    · rw [show two 21 a b = (0, true) from by show (shl a b, true) = _; unfold shl; rw [if_pos h0]]
      rcases h0 with h0 | h0
      · go_enter Tryz.func54, Tryz.ntmps54
        go_wp2_with (first | (go_at_call 53; refine (ref_isTwo _ _).mono ?_; rintro e w' ⟨rfl, rfl⟩) | (go_at_call 92; refine (ref_flag _ _).mono ?_; rintro e w' ⟨rfl, rfl⟩))
        go_ret2; exact ⟨ret2 rfl rfl, 0, rfl⟩
      · go_enter Tryz.func54, Tryz.ntmps54
        go_wp2_with (first | (go_at_call 53; refine (ref_isTwo _ _).mono ?_; rintro e w' ⟨rfl, rfl⟩) | (go_at_call 92; refine (ref_flag _ _).mono ?_; rintro e w' ⟨rfl, rfl⟩))
        go_ret2; exact ⟨ret2 rfl rfl, 0, rfl⟩
    · exact ref_shift_left a b (by omega) (by omega) w
  case' inr.inr.inr.inr.inr.inr.inr.inr.inr.inr.inr.inr.inr.inl =>
    by_cases h0 : b < 0 ∨ 63 < b
    · rw [show two 22 a b = (0, true) from by show (shr a b, true) = _; unfold shr; rw [if_pos h0]]
      rcases h0 with h0 | h0
      · go_enter Tryz.func54, Tryz.ntmps54
        go_wp2_with (first | (go_at_call 53; refine (ref_isTwo _ _).mono ?_; rintro e w' ⟨rfl, rfl⟩) | (go_at_call 92; refine (ref_flag _ _).mono ?_; rintro e w' ⟨rfl, rfl⟩))
        go_ret2; exact ⟨ret2 rfl rfl, 0, rfl⟩
      · go_enter Tryz.func54, Tryz.ntmps54
        go_wp2_with (first | (go_at_call 53; refine (ref_isTwo _ _).mono ?_; rintro e w' ⟨rfl, rfl⟩) | (go_at_call 92; refine (ref_flag _ _).mono ?_; rintro e w' ⟨rfl, rfl⟩))
        go_ret2; exact ⟨ret2 rfl rfl, 0, rfl⟩
    · exact ref_shift_right a b (by omega) (by omega) w
  all_goals
    go_enter Tryz.func54, Tryz.ntmps54
    go_wp2_with (first | (go_at_call 53; refine (ref_isTwo _ _).mono ?_; rintro e w' ⟨rfl, rfl⟩) | (go_at_call 92; refine (ref_flag _ _).mono ?_; rintro e w' ⟨rfl, rfl⟩))
    all_goals go_ret2
    all_goals exact ⟨ret2 (by first | rfl | (show _ = flag _; rw [uns_of, uns_of]; rfl) | (show _ = min a b; omega) | (show _ = max a b; omega)) rfl, 0, rfl⟩
end Go.Proofs.YtcffbeihgchpgaaGreatDoor.Cell
/- Numbers as digits, and digits as numbers, in plain functions: no program in sight. -/
namespace Go.Proofs.YtcffbeihgchpgaaGreatDoor.Dig
open Go.RowKit (wrap64)

def upD (d : Nat) : UInt8 := UInt8.ofNat (if d < 10 then 48 + d else 55 + d)
def loD (d : Nat) : UInt8 := UInt8.ofNat (if d < 10 then 48 + d else 87 + d)
/-- the j lowest digits of u -/
def suf (f : Nat → UInt8) (b u : Nat) : Nat → List UInt8
  | 0 => []
  | j + 1 => f (u / b ^ j % b) :: suf f b u j
def ndF (b : Nat) : Nat → Nat → Nat
  | 0, _ => 1
  | k + 1, u => if u < b then 1 else ndF b k (u / b) + 1
/-- how many digits a number has -/
def nd (b u : Nat) : Nat := ndF b 64 u
def digs (f : Nat → UInt8) (b u : Nat) : List UInt8 := suf f b u (nd b u)
def Fits (b u n : Nat) : Prop := 1 ≤ n ∧ u < b ^ n ∧ (n = 1 ∨ b ^ (n - 1) ≤ u)

theorem ndF_fits {b : Nat} (hb : 2 ≤ b) : ∀ (k u : Nat), u < 2 ^ (k + 1) → Fits b u (ndF b k u)
  | 0, u, h => ⟨Nat.le_refl _, by simp only [ndF, Nat.pow_one]; simp at h; omega, .inl rfl⟩
  | k + 1, u, h => by
    unfold ndF
    by_cases hu : u < b
    · rw [if_pos hu]; exact ⟨Nat.le_refl _, by simpa using hu, .inl rfl⟩
    · rw [if_neg hu]
      have hd : u / b < 2 ^ (k + 1) := by
        rw [Nat.div_lt_iff_lt_mul (by omega)]
        rw [Nat.pow_succ] at h
        exact Nat.lt_of_lt_of_le h (Nat.mul_le_mul_left _ hb)
      obtain ⟨h1, h2, h3⟩ := ndF_fits hb k (u / b) hd
      refine ⟨by omega, ?_, .inr ?_⟩
      · rw [Nat.pow_succ]; exact (Nat.div_lt_iff_lt_mul (by omega)).1 h2
      · rw [Nat.add_sub_cancel]
        rcases h3 with h3 | h3
        · rw [h3, Nat.pow_one]; omega
        · have h4 := (Nat.le_div_iff_mul_le (by omega)).1 h3
          rw [← Nat.pow_succ] at h4
          rwa [show (ndF b k (u / b) - 1).succ = ndF b k (u / b) from by omega] at h4
theorem nd_fits {b u : Nat} (hb : 2 ≤ b) (hu : u < 18446744073709551616) : Fits b u (nd b u) :=
  ndF_fits hb 64 u (Nat.lt_of_lt_of_le hu (by decide))
theorem fits_one {b u m n : Nat} (hb : 2 ≤ b) (hm : Fits b u m) (hn : Fits b u n) : m = n := by
  have key : ∀ {m n : Nat}, Fits b u m → Fits b u n → ¬ m < n := fun {m n} hm hn hlt => by
    have h1 := hm.2.1
    rcases hn.2.2 with h2 | h2
    · have := hm.1; omega
    · have h3 : b ^ m ≤ b ^ (n - 1) := Nat.pow_le_pow_right (by omega) (by omega)
      omega
  have h1 := key hm hn
  have h2 := key hn hm
  omega
theorem nd_eq {b u n : Nat} (hb : 2 ≤ b) (hu : u < 18446744073709551616) (hn : Fits b u n) : nd b u = n := fits_one hb (nd_fits hb hu) hn
theorem nd_le {b u : Nat} (hb : 2 ≤ b) (hu : u < 18446744073709551616) : nd b u ≤ 64 := by
  obtain ⟨h1, h2, h3⟩ := nd_fits hb hu
  rcases h3 with h3 | h3
  · omega
  · rcases Nat.lt_or_ge 64 (nd b u) with h | h
    · have h4 : 2 ^ 64 ≤ b ^ (nd b u - 1) := Nat.le_trans (Nat.pow_le_pow_left hb 64) (Nat.pow_le_pow_right (by omega) (by omega))
      have : (2 : Nat) ^ 64 = 18446744073709551616 := by decide
      omega
    · exact h
theorem suf_length (f : Nat → UInt8) (b u : Nat) : ∀ j, (suf f b u j).length = j
  | 0 => rfl
  | j + 1 => by simp [suf, suf_length f b u j]
theorem digs_length (f : Nat → UInt8) (b u : Nat) : (digs f b u).length = nd b u := suf_length f b u _
theorem suf_snoc (f : Nat → UInt8) (b u : Nat) : ∀ j, suf f b u (j + 1) = suf f b (u / b) j ++ [f (u % b)]
  | 0 => by simp [suf]
  | j + 1 => by
    rw [suf, suf_snoc f b u j]
    show _ = f (u / b / b ^ j % b) :: suf f b (u / b) j ++ _
    rw [Nat.div_div_eq_div_mul, Nat.mul_comm b, ← Nat.pow_succ]
    rfl
theorem suf_map (f g h : Nat → UInt8) (k : UInt8 → UInt8) (b u : Nat) (hb : 0 < b) (he : ∀ d, d < b → k (f d) = h d) : ∀ j, (suf f b u j).map k = suf h b u j
  | 0 => rfl
  | j + 1 => by simp only [suf, List.map_cons, suf_map f g h k b u hb he j, he _ (Nat.mod_lt _ hb)]
theorem suf_all (f : Nat → UInt8) (p : UInt8 → Prop) (b u : Nat) (hb : 0 < b) (he : ∀ d, d < b → p (f d)) : ∀ j, ∀ c ∈ suf f b u j, p c
  | 0, _, h => by cases h
  | j + 1, c, h => by
    rcases List.mem_cons.1 h with rfl | h
    · exact he _ (Nat.mod_lt _ hb)
    · exact suf_all f p b u hb he j c h
theorem upper_lo_fin : ∀ d : Fin 36, Lib.upperB (loD d.val) = upD d.val := by decide
theorem upper_lo {d : Nat} (h : d < 36) : Lib.upperB (loD d) = upD d := upper_lo_fin ⟨d, h⟩
theorem lo_ascii_fin : ∀ d : Fin 36, (loD d.val).toNat < 128 := by decide
theorem lo_ascii {d : Nat} (h : d < 36) : (loD d).toNat < 128 := lo_ascii_fin ⟨d, h⟩
theorem nDigits_fits (u : Nat) : Fits 10 u (Lib.nDigits u) := by
  refine ⟨Lib.nDigits_pos u, Lib.lt_pow_nDigits u, ?_⟩
  induction u using Nat.strongRecOn with
  | _ u ih =>
    by_cases h : u < 10
    · exact .inl (Lib.nDigits_small h)
    · rw [Lib.nDigits_big h, Nat.add_sub_cancel]
      have hp := Lib.nDigits_pos (u / 10)
      rcases ih (u / 10) (by omega) with h3 | h3
      · rw [h3]; right; omega
      · right
        have h4 := (Nat.le_div_iff_mul_le (by decide)).1 h3
        rw [← Nat.pow_succ, show (Lib.nDigits (u / 10) - 1).succ = Lib.nDigits (u / 10) from by omega] at h4
        exact h4
theorem dec_suf (f : Nat → UInt8) (hf : ∀ d, d < 10 → f d = UInt8.ofNat (48 + d)) (u : Nat) : Lib.decDigits u = suf f 10 u (Lib.nDigits u) := by
  induction u using Nat.strongRecOn with
  | _ u ih =>
    by_cases h : u < 10
    · rw [Lib.decDigits, dif_pos h, Lib.nDigits_small h]
      simp [suf, Nat.mod_eq_of_lt h, hf u h]
    · rw [Lib.decDigits, dif_neg h, Lib.nDigits_big h, suf_snoc, ih (u / 10) (by omega), hf _ (Nat.mod_lt _ (by decide))]
theorem dec_digs (f : Nat → UInt8) (hf : ∀ d, d < 10 → f d = UInt8.ofNat (48 + d)) (u : Nat) (hu : u < 18446744073709551616) : Lib.decDigits u = digs f 10 u := by
  rw [dec_suf f hf, digs, nd_eq (by decide) hu (nDigits_fits u)]

def rightB (base : Int) : Bool := decide (2 ≤ base) && decide (base ≤ 36)
def sgn (v : Int) : List UInt8 := if v < 0 then [45] else []
/-- what a number's digits are -/
def putV (f : Nat → UInt8) (v base : Int) : List UInt8 := sgn v ++ digs f base.toNat v.natAbs
theorem itoa_put {v : Int} (hv : v.natAbs < 18446744073709551616) : Lib.itoa v = putV loD v 10 := by
  unfold Lib.itoa putV sgn
  rw [show (10 : Int).toNat = 10 from rfl, ← dec_digs loD (fun d h => by unfold loD; rw [if_pos h]) _ hv]
  split
  · rfl
  · rw [show v.toNat = v.natAbs from by omega]; rfl
theorem put_upper (v base : Int) (h0 : 2 ≤ base) (h1 : base ≤ 36) : (putV loD v base).map Lib.upperB = putV upD v base := by
  unfold putV digs sgn
  rw [List.map_append, suf_map loD loD upD Lib.upperB _ _ (by omega) (fun d hd => upper_lo (by omega))]
  congr 1
  split <;> decide
theorem put_ascii (v base : Int) (h0 : 2 ≤ base) (h1 : base ≤ 36) : ∀ c ∈ putV loD v base, c.toNat < 128 := by
  intro c hc
  unfold putV digs sgn at hc
  rcases List.mem_append.1 hc with h | h
  · split at h
    · simp at h; subst h; decide
    · cases h
  · exact suf_all loD (fun c => c.toNat < 128) _ _ (by omega) (fun d hd => lo_ascii (by omega)) _ c h
theorem put_length (f : Nat → UInt8) (v base : Int) (h0 : 2 ≤ base) (hv : v.natAbs < 18446744073709551616) : 1 ≤ (putV f v base).length ∧ (putV f v base).length ≤ 65 := by
  unfold putV sgn
  rw [List.length_append, digs_length]
  have h1 := nd_le (b := base.toNat) (u := v.natAbs) (by omega) hv
  have h2 := (nd_fits (b := base.toNat) (u := v.natAbs) (by omega) hv).1
  split <;> simp <;> omega

/-- what a byte stands for; 36: none -/
def dig (c : UInt8) : Int :=
  if 48 ≤ c.toNat ∧ c.toNat ≤ 57 then c.toNat - 48
  else if 97 ≤ c.toNat ∧ c.toNat ≤ 122 then c.toNat - 87
  else if 65 ≤ c.toNat ∧ c.toNat ≤ 90 then c.toNat - 55
  else 36
def numL (b : Int) : Int → List UInt8 → Option Int
  | v, [] => some v
  | v, c :: r => if b ≤ dig c then none else numL b (wrap64 (wrap64 (v * b) + dig c)) r
def numV (l : List UInt8) (b : Int) : Option Int := if l = [] ∨ 70 < l.length then none else numL b 0 l
def signV (c : UInt8) : Int := if c = 36 then 16 else if c = 35 then 10 else if c = 37 then 2 else 0
def signed (l : List UInt8) (b : Int) : List UInt8 × Int := match l with
  | [] => ([], b)
  | c :: r => if signV c = 0 then (c :: r, b) else (r, signV c)
def minus (l : List UInt8) : List UInt8 × Bool := match l with
  | [] => ([], false)
  | c :: r => if c = 45 then (r, true) else (c :: r, false)
def quoted (l : List UInt8) : Option UInt8 := match l with
  | [a, c, b] => if a = 39 ∧ b = 39 then some c else none
  | _ => none
def withSign (neg : Bool) : Option Int → Int × Bool
  | none => (0, false)
  | some v => (if neg then wrap64 (-v) else v, true)
/-- what a text is as a number -/
def getV (l : List UInt8) (base : Int) : Int × Bool :=
  if rightB base then
    match quoted l with
    | some c => (c.toNat, true)
    | none => withSign (minus (signed l base).1).2 (numV (minus (signed l base).1).1 (signed l base).2)
  else (0, false)

theorem wrap_step (x y k : Int) : wrap64 (wrap64 (wrap64 x * k) + y) = wrap64 (x * k + y) := by
  have h : wrap64 (wrap64 x * k) = wrap64 (x * k) := by
    unfold wrap64
    have e : ((x + 9223372036854775808) % 18446744073709551616 - 9223372036854775808) = x - 18446744073709551616 * ((x + 9223372036854775808) / 18446744073709551616) := by omega
    rw [e, Int.sub_mul, Int.mul_assoc, Int.mul_comm 18446744073709551616 (_ * k)]
    omega
  rw [h]; unfold wrap64; omega
theorem dig_up_fin : ∀ d : Fin 36, dig (upD d.val) = (d.val : Int) := by decide
theorem dig_up {d : Nat} (h : d < 36) : dig (upD d) = (d : Int) := dig_up_fin ⟨d, h⟩
theorem numL_suf (b u : Nat) (hb : 2 ≤ b) (h36 : b ≤ 36) : ∀ (j : Nat) (a : Int), numL b (wrap64 a) (suf upD b u j) = some (wrap64 (a * (b ^ j : Nat) + (u % b ^ j : Nat)))
  | 0, a => by simp [numL, suf, Nat.mod_one]
  | j + 1, a => by
    have hm : u / b ^ j % b < b := Nat.mod_lt _ (by omega)
    rw [suf, numL, dig_up (by omega), if_neg (by omega), wrap_step, numL_suf b u hb h36 j]
    congr 2
    have e : u % b ^ (j + 1) = (u / b ^ j % b) * b ^ j + u % b ^ j := by
      rw [Nat.pow_succ, Nat.mod_mul]
      rw [Nat.mul_comm (b ^ j)]; omega
    rw [e, Int.add_mul]
    have e2 : (b ^ (j + 1) : Nat) = b * b ^ j := by rw [Nat.pow_succ, Nat.mul_comm]
    rw [e2]
    push_cast
    rw [Int.mul_assoc]
    omega
theorem numV_digs {b u : Nat} (hb : 2 ≤ b) (h36 : b ≤ 36) (hu : u < 18446744073709551616) : numV (digs upD b u) b = some (wrap64 u) := by
  obtain ⟨h1, h2, h3⟩ := nd_fits hb hu
  have h4 := nd_le hb hu
  have hl := digs_length upD b u
  unfold numV
  rw [if_neg (by
    rintro (h | h)
    · rw [h] at hl; simp at hl; omega
    · omega)]
  have h := numL_suf b u hb h36 (nd b u) 0
  rw [show wrap64 0 = 0 from by unfold wrap64; omega] at h
  unfold digs
  rw [h, Int.zero_mul, Int.zero_add, Nat.mod_eq_of_lt h2]

theorem up_plain_fin : ∀ d : Fin 36, signV (upD d.val) = 0 ∧ upD d.val ≠ 45 ∧ upD d.val ≠ 39 := by decide
theorem up_plain {d : Nat} (h : d < 36) : signV (upD d) = 0 ∧ upD d ≠ 45 ∧ upD d ≠ 39 := up_plain_fin ⟨d, h⟩
/-- digits have neither a sign nor a minus nor an apostrophe -/
def Plain (c : UInt8) : Prop := signV c = 0 ∧ c ≠ 45 ∧ c ≠ 39
theorem digs_plain {b u : Nat} (hb : 2 ≤ b) (h36 : b ≤ 36) : ∀ c ∈ digs upD b u, Plain c :=
  suf_all upD Plain b u (by omega) (fun d hd => up_plain (by omega)) _
theorem quoted_head {c : UInt8} {r : List UInt8} (h : c ≠ 39) : quoted (c :: r) = none := by
  unfold quoted
  split
  · rename_i a x b e; rw [if_neg]; rintro ⟨rfl, _⟩; simp at e; exact h e.1
  · rfl
theorem neg_wrap {v : Int} (h0 : -9223372036854775808 ≤ v) (h : v < 0) : wrap64 (-wrap64 (v.natAbs : Int)) = v := by unfold wrap64; omega
theorem pos_wrap {v : Int} (h1 : v ≤ 9223372036854775807) (h : ¬ v < 0) : wrap64 (v.natAbs : Int) = v := by unfold wrap64; omega
theorem abs_lt {v : Int} (h0 : -9223372036854775808 ≤ v) (h1 : v ≤ 9223372036854775807) : v.natAbs < 18446744073709551616 := by omega
/-- a number's digits, behind the base's own sign: read they are the number -/
theorem tail_back {v : Int} {b : Nat} (hb : 2 ≤ b) (h36 : b ≤ 36) (h0 : -9223372036854775808 ≤ v) (h1 : v ≤ 9223372036854775807) :
    withSign (minus (putV upD v b)).2 (numV (minus (putV upD v b)).1 b) = (v, true) := by
  have hn := numV_digs hb h36 (abs_lt h0 h1)
  have hp := digs_plain (u := v.natAbs) hb h36
  have hl := digs_length upD b v.natAbs
  have hk := (nd_fits hb (abs_lt h0 h1)).1
  unfold putV sgn
  rw [Int.toNat_natCast]
  cases hd : digs upD b v.natAbs with
  | nil => rw [hd] at hl; simp at hl; omega
  | cons c r =>
    rw [hd] at hn hp
    by_cases h : v < 0
    · rw [if_pos h]
      show withSign (minus (45 :: c :: r)).2 (numV (minus (45 :: c :: r)).1 b) = _
      simp only [minus, if_true]
      rw [hn]
      simp only [withSign, if_true]
      rw [neg_wrap h0 h]
    · rw [if_neg h]
      have hc := (hp c List.mem_cons_self).2.1
      simp only [List.nil_append, minus]
      rw [if_neg hc, hn]
      simp only [withSign, Bool.false_eq_true, if_false]
      rw [pos_wrap h1 h]
theorem put_cons {v : Int} {b : Nat} (hb : 2 ≤ b) (h36 : b ≤ 36) (h0 : -9223372036854775808 ≤ v) (h1 : v ≤ 9223372036854775807) :
    ∃ c r, putV upD v b = c :: r ∧ signV c = 0 ∧ c ≠ 39 := by
  have hp := digs_plain (u := v.natAbs) hb h36
  have hl := digs_length upD b v.natAbs
  have hk := (nd_fits hb (abs_lt h0 h1)).1
  unfold putV sgn
  rw [Int.toNat_natCast]
  cases hd : digs upD b v.natAbs with
  | nil => rw [hd] at hl; simp at hl; omega
  | cons c r =>
    rw [hd] at hp
    by_cases h : v < 0
    · rw [if_pos h]; exact ⟨45, c :: r, rfl, by decide, by decide⟩
    · rw [if_neg h]; exact ⟨c, r, rfl, (hp c List.mem_cons_self).1, (hp c List.mem_cons_self).2.2⟩
theorem back {v base : Int} (hb : rightB base = true) (h0 : -9223372036854775808 ≤ v) (h1 : v ≤ 9223372036854775807) : getV (putV upD v base) base = (v, true) := by
  have hb' := hb
  simp only [rightB, Bool.and_eq_true, decide_eq_true_eq] at hb'
  obtain ⟨b, rfl⟩ := Int.eq_ofNat_of_zero_le (show 0 ≤ base by omega)
  obtain ⟨c, r, e, e1, e2⟩ := put_cons (v := v) (b := b) (by omega) (by omega) h0 h1
  have h := tail_back (v := v) (b := b) (by omega) (by omega) h0 h1
  unfold getV
  rw [if_pos hb]
  rw [e] at h ⊢
  rw [quoted_head e2]
  simp only [signed, if_pos e1]
  exact h
theorem back_signed {v base : Int} {b : Nat} {c : UInt8} (hb : rightB base = true) (hs : signV c = b) (hc : c ≠ 39) (hb2 : 2 ≤ b) (h36 : b ≤ 36) (h0 : -9223372036854775808 ≤ v) (h1 : v ≤ 9223372036854775807) :
    getV (c :: putV upD v b) base = (v, true) := by
  have h := tail_back (v := v) (b := b) hb2 h36 h0 h1
  unfold getV
  rw [if_pos hb, quoted_head hc]
  simp only [signed]
  rw [if_neg (by omega), hs]
  exact h
end Go.Proofs.YtcffbeihgchpgaaGreatDoor.Dig
/- The walk of the document's own Put (hollowayref1: digits). -/
namespace Go.Proofs.YtcffbeihgchpgaaGreatDoor
open Go.RowKit
set_option linter.unusedSimpArgs false
set_option linter.unusedVariables false

abbrev txt (l : List UInt8) : Value := .string ⟨l.toArray⟩
abbrev upText : ByteArray := ⟨#[48, 49, 50, 51, 52, 53, 54, 55, 56, 57, 65, 66, 67, 68, 69, 70, 71, 72, 73, 74, 75, 76, 77, 78, 79, 80, 81, 82, 83, 84, 85, 86, 87, 88, 89, 90]⟩
theorem up_piece_fin : ∀ k : Fin 36, (upText.data.toList.drop k.val).take 1 = [Dig.upD k.val] := by decide +kernel
theorem up_piece {k : Nat} (h : k < 36) : upText.extract k (k + 1) = ⟨[Dig.upD k].toArray⟩ := by
  rw [Lib.extract_eq, Nat.add_sub_cancel_left, up_piece_fin ⟨k, h⟩]
theorem txt_cons (c : UInt8) (l : List UInt8) : (⟨[c].toArray⟩ : ByteArray) ++ ⟨l.toArray⟩ = ⟨(c :: l).toArray⟩ := by
  apply ByteArray.ext; simp [ByteArray.data_append]
set_option maxHeartbeats 1000000 in
theorem refPut_wrong (v b : Int) (hb : Dig.rightB b = false) (w : World) :
    Calls Tryz.prog 58 #[.int .i64 v, .int .i64 b] w fun e w' => e = .returned (txt []) ∧ w = w' := by
  simp only [Dig.rightB, Bool.and_eq_false_iff, decide_eq_false_iff_not] at hb
  by_cases h0 : b < 2
  · clear hb
    go_enter Tryz.func58, Tryz.ntmps58
    go_wp2
    go_ret
    exact ⟨rfl, rfl⟩
  · have h1 : 36 < b := by omega
    clear hb
    go_enter Tryz.func58, Tryz.ntmps58
    go_wp2
    go_ret
    exact ⟨rfl, rfl⟩
def PutRel (b U j : Nat) (u s : Value) : Prop := j ≤ Dig.nd b U ∧ (j ≤ 1 ∨ b ^ (j - 1) ≤ U) ∧ u = .int .u64 (U / b ^ j : Nat) ∧ s = txt (Dig.suf Dig.upD b U j)
theorem neg_u64 {U : Nat} (h : (U : Int) ≤ 9223372036854775808) : IntKind.u64.wrap (-IntKind.u64.wrap (-(U : Int))) = (U : Int) := by
  have e : ∀ x, IntKind.u64.wrap x = x % 18446744073709551616 := fun x => by simp [IntKind.wrap, IntKind.bits, IntKind.signed]
  rw [e, e]; omega
theorem pos_u64 {U : Nat} (h : (U : Int) ≤ 9223372036854775807) : IntKind.u64.wrap (U : Int) = (U : Int) := by
  have e : ∀ x, IntKind.u64.wrap x = x % 18446744073709551616 := fun x => by simp [IntKind.wrap, IntKind.bits, IntKind.signed]
  rw [e]; omega
theorem put_start (b U : Nat) (x : Int) (h : x = U) : PutRel b U 0 (.int .u64 x) (.string ⟨#[]⟩) :=
  ⟨Nat.zero_le _, .inl (Nat.zero_le _), by rw [h, Nat.pow_zero, Nat.div_one], rfl⟩
theorem put_next {b U j q : Nat} {l : List UInt8} (hf : Dig.Fits b U (Dig.nd b U)) (h2 : 2 ≤ b) (hq : U / b ^ j = q) (hl : Dig.suf Dig.upD b U j = l) (hgo : 0 < q ∨ j = 0) :
    j < Dig.nd b U ∧ PutRel b U (j + 1) (.int .u64 (q / b : Nat)) (txt (Dig.upD (q % b) :: l)) := by
  have hb : 0 < b ^ j := Nat.pow_pos (by omega)
  have hlt : j < Dig.nd b U := by
    rcases hgo with h | h
    · rcases Nat.lt_or_ge j (Dig.nd b U) with h3 | h3
      · exact h3
      · have h4 : b ^ Dig.nd b U ≤ b ^ j := Nat.pow_le_pow_right (by omega) h3
        have : U / b ^ j = 0 := Nat.div_eq_of_lt (Nat.lt_of_lt_of_le hf.2.1 h4)
        omega
    · have := hf.1; omega
  refine ⟨hlt, hlt, ?_, ?_, ?_⟩
  · rcases hgo with h | h
    · right
      rw [Nat.add_sub_cancel]
      rw [← hq] at h
      exact (Nat.div_pos_iff.1 h).2
    · left; omega
  · rw [← hq, Nat.div_div_eq_div_mul, ← Nat.pow_succ]
  · rw [Dig.suf, hq, hl]
theorem put_end {b U j : Nat} (hu : U < 18446744073709551616) (h2 : 2 ≤ b) (hj : 1 ≤ j) (hq : U / b ^ j = 0) (hlow : j ≤ 1 ∨ b ^ (j - 1) ≤ U) : Dig.suf Dig.upD b U j = Dig.digs Dig.upD b U := by
  unfold Dig.digs
  rw [Dig.nd_eq h2 hu ⟨hj, ?_, ?_⟩]
  · rcases Nat.lt_or_ge U (b ^ j) with h | h
    · exact h
    · have := Nat.div_pos h (Nat.pow_pos (by omega)); omega
  · rcases hlow with h | h
    · left; omega
    · right; exact h
theorem mod_int (q b : Nat) : ((q : Int) % (b : Int)) = ((q % b : Nat) : Int) := by omega
theorem div_int (q b : Nat) : ((q : Int) / (b : Int)) = ((q / b : Nat) : Int) := by omega
set_option maxHeartbeats 4000000 in
set_option maxRecDepth 100000 in
theorem refPut_right (v : Int) (b : Nat) (h2 : 2 ≤ b) (h36 : b ≤ 36) (v0 : -9223372036854775808 ≤ v) (v1 : v ≤ 9223372036854775807) (w : World) :
    Calls Tryz.prog 58 #[.int .i64 v, .int .i64 b] w fun e w' => e = .returned (txt (Dig.putV Dig.upD v b)) ∧ w = w' := by
  have hf := Dig.nd_fits (b := b) (u := v.natAbs) h2 (Dig.abs_lt v0 v1)
  have hul := Dig.abs_lt v0 v1
  by_cases hn : v < 0
  · obtain ⟨U, rfl⟩ : ∃ U : Nat, v = -(U : Int) := ⟨v.natAbs, by omega⟩
    have hU : (-(U : Int)).natAbs = U := by omega
    rw [hU] at hf hul
    have HP := Lib.hid (show Dig.putV Dig.upD (-(U : Int)) b = 45 :: Dig.digs Dig.upD b U from by unfold Dig.putV Dig.sgn; rw [if_pos hn, hU]; rfl)
    have HF := Lib.hid hf
    have HU := Lib.hid hul
    clear hf hU hul
    go_enter Tryz.func58, Tryz.ntmps58
    go_wp2
    go_loopg [5, 6] (Dig.nd b U) (fun k u s wr => ∃ j, k = Dig.nd b U - j ∧ Hid (PutRel b U j u s) ∧ w = wr)
    case atStart => exact ⟨0, by omega, put_start _ _ _ (neg_u64 (by omega)), rfl⟩
    case round =>
      obtain ⟨j, rfl, HR, rfl⟩ := hrel
      obtain ⟨hj, hlow, rfl, rfl⟩ := HR.out
      clear HR
      have HJ := Lib.hid hlow
      obtain ⟨q, hq⟩ : ∃ q, U / b ^ j = q := ⟨_, rfl⟩
      obtain ⟨l, hl⟩ : ∃ l, Dig.suf Dig.upD b U j = l := ⟨_, rfl⟩
      rw [hq, hl]
      have hqU : q ≤ U := by rw [← hq]; exact Nat.div_le_self _ _
      have hll : l.length ≤ 64 := by
        rw [← hl, Dig.suf_length]
        exact Nat.le_trans hj (Dig.nd_le h2 HU.out)
      have HQ := Lib.hid hq
      have HL := Lib.hid hl
      clear hq hl hlow
      by_cases hq0 : 0 < q
      · have r0 : 0 ≤ (q : Int) % (b : Int) := by omega
        have r1 : (q : Int) % (b : Int) < 36 := by have := Int.emod_lt_of_pos (q : Int) (show (0 : Int) < b by omega); omega
        have r2 : min (q % b + 1) 36 - q % b + l.length ≤ 9223372036854775807 := by omega
        have r3 : (q : Int) / (b : Int) ≤ 18446744073709551615 := by
          have h := HU.out
          rw [div_int]
          have := Nat.div_le_self q b
          omega
        have r4 : 0 ≤ (q : Int) / (b : Int) := Int.ediv_nonneg (by omega) (by omega)
        have hN := Lib.hid (put_next (b := b) (U := U) (j := j) HF.out h2 HQ.out HL.out (.inl hq0))
        have hup := Lib.hid (up_piece (k := q % b) (by have := Nat.mod_lt q (show b > 0 by omega); omega))
        go_wp2
        go_roundg (Dig.nd b U - (j + 1))
        case measure => have := hN.out.1; omega
        case rel => exact ⟨j + 1, rfl, by rw [div_int, hup.out, txt_cons]; exact hN.out.2, rfl⟩
      · obtain rfl : q = 0 := by omega
        by_cases hj0 : j = 0
        · subst hj0
          obtain rfl : [] = l := HL.out
          have hN := Lib.hid (put_next (b := b) (U := U) (j := 0) HF.out h2 HQ.out HL.out (.inr rfl))
          have hup := Lib.hid (up_piece (k := 0) (by omega))
          clear hll
          go_wp2
          go_roundg (Dig.nd b U - (0 + 1))
          case measure => have := hN.out.1; omega
          case rel => exact ⟨0 + 1, rfl, by
            have h := hN.out.2
            rw [Nat.zero_div, Nat.zero_mod] at h
            exact h, rfl⟩
        · have hne : l.isEmpty = false := by
            have h := HL.out
            cases l with
            | nil => cases j with
              | zero => exact absurd rfl hj0
              | succ j => cases h
            | cons _ _ => rfl
          have hE := put_end (b := b) (U := U) (j := j) HU.out h2 (by omega) HQ.out HJ.out
          rw [HL.out] at hE
          have HE := Lib.hid hE
          have h1l : 1 + l.length ≤ 9223372036854775807 := by omega
          clear hE
          go_wp2
          go_ret
          exact ⟨by rw [HP.out, ← HE.out]; first | rfl | exact congrArg (fun x => Ending.returned (.string x)) (txt_cons 45 _), rfl⟩
  · obtain ⟨U, rfl⟩ : ∃ U : Nat, v = (U : Int) := ⟨v.natAbs, by omega⟩
    have hU : (U : Int).natAbs = U := by omega
    rw [hU] at hf hul
    have HP := Lib.hid (show Dig.putV Dig.upD (U : Int) b = Dig.digs Dig.upD b U from by unfold Dig.putV Dig.sgn; rw [if_neg hn, hU]; rfl)
    have HF := Lib.hid hf
    have HU := Lib.hid hul
    clear hf hU hul
    go_enter Tryz.func58, Tryz.ntmps58
    go_wp2
    go_loopg [5, 6] (Dig.nd b U) (fun k u s wr => ∃ j, k = Dig.nd b U - j ∧ Hid (PutRel b U j u s) ∧ w = wr)
    case atStart => exact ⟨0, by omega, put_start _ _ _ (by first | rfl | exact pos_u64 (by omega)), rfl⟩
    case round =>
      obtain ⟨j, rfl, HR, rfl⟩ := hrel
      obtain ⟨hj, hlow, rfl, rfl⟩ := HR.out
      clear HR
      have HJ := Lib.hid hlow
      obtain ⟨q, hq⟩ : ∃ q, U / b ^ j = q := ⟨_, rfl⟩
      obtain ⟨l, hl⟩ : ∃ l, Dig.suf Dig.upD b U j = l := ⟨_, rfl⟩
      rw [hq, hl]
      have hqU : q ≤ U := by rw [← hq]; exact Nat.div_le_self _ _
      have hll : l.length ≤ 64 := by
        rw [← hl, Dig.suf_length]
        exact Nat.le_trans hj (Dig.nd_le h2 HU.out)
      have HQ := Lib.hid hq
      have HL := Lib.hid hl
      clear hq hl hlow
      by_cases hq0 : 0 < q
      · have r0 : 0 ≤ (q : Int) % (b : Int) := by omega
        have r1 : (q : Int) % (b : Int) < 36 := by have := Int.emod_lt_of_pos (q : Int) (show (0 : Int) < b by omega); omega
        have r2 : min (q % b + 1) 36 - q % b + l.length ≤ 9223372036854775807 := by omega
        have r3 : (q : Int) / (b : Int) ≤ 18446744073709551615 := by
          have h := HU.out
          rw [div_int]
          have := Nat.div_le_self q b
          omega
        have r4 : 0 ≤ (q : Int) / (b : Int) := Int.ediv_nonneg (by omega) (by omega)
        have hN := Lib.hid (put_next (b := b) (U := U) (j := j) HF.out h2 HQ.out HL.out (.inl hq0))
        have hup := Lib.hid (up_piece (k := q % b) (by have := Nat.mod_lt q (show b > 0 by omega); omega))
        go_wp2
        go_roundg (Dig.nd b U - (j + 1))
        case measure => have := hN.out.1; omega
        case rel => exact ⟨j + 1, rfl, by rw [div_int, hup.out, txt_cons]; exact hN.out.2, rfl⟩
      · obtain rfl : q = 0 := by omega
        by_cases hj0 : j = 0
        · subst hj0
          obtain rfl : [] = l := HL.out
          have hN := Lib.hid (put_next (b := b) (U := U) (j := 0) HF.out h2 HQ.out HL.out (.inr rfl))
          have hup := Lib.hid (up_piece (k := 0) (by omega))
          clear hll
          go_wp2
          go_roundg (Dig.nd b U - (0 + 1))
          case measure => have := hN.out.1; omega
          case rel => exact ⟨0 + 1, rfl, by
            have h := hN.out.2
            rw [Nat.zero_div, Nat.zero_mod] at h
            exact h, rfl⟩
        · have hne : l.isEmpty = false := by
            have h := HL.out
            cases l with
            | nil => cases j with
              | zero => exact absurd rfl hj0
              | succ j => cases h
            | cons _ _ => rfl
          have hE := put_end (b := b) (U := U) (j := j) HU.out h2 (by omega) HQ.out HJ.out
          rw [HL.out] at hE
          have HE := Lib.hid hE
          have h1l : 1 + l.length ≤ 9223372036854775807 := by omega
          clear hE
          go_wp2
          go_ret
          exact ⟨by rw [HP.out, ← HE.out]; rfl, rfl⟩
/-- what Put tells, whatever the base is -/
def putT (v b : Int) : List UInt8 := if Dig.rightB b then Dig.putV Dig.upD v b else []
theorem refPut_any (v b : Int) (v0 : -9223372036854775808 ≤ v) (v1 : v ≤ 9223372036854775807) (w : World) :
    Calls Tryz.prog 58 #[.int .i64 v, .int .i64 b] w fun e w' => e = .returned (txt (putT v b)) ∧ w = w' := by
  unfold putT
  cases hb : Dig.rightB b with
  | false => exact refPut_wrong v b hb w
  | true =>
    simp only [Dig.rightB, Bool.and_eq_true, decide_eq_true_eq] at hb
    obtain ⟨n, rfl⟩ := Int.eq_ofNat_of_zero_le (show 0 ≤ b by omega)
    exact refPut_right v n (by omega) (by omega) v0 v1 w
end Go.Proofs.YtcffbeihgchpgaaGreatDoor
