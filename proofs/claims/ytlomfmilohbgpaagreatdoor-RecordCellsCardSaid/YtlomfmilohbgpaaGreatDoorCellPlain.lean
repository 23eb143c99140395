
/- Cells in plain numbers: what the operations of two cells and of one come to; no program in sight. -/
import Derived.RowKit
import Derived.Laws.BitsAllLaws
import Derived.WalkKit
namespace Go.Proofs.YtlomfmilohbgpaaGreatDoor.Cell
open Go.RowKit (wrap64)

def flag (b : Bool) : Int := if b then -1 else 0
/-- quotient, rounded down, and the rest -/
def fq (a b : Int) : Int := wrap64 (a.fdiv b)
def fr (a b : Int) : Int := a.fmod b
def fl (a b : Int) (k : Int) : Int × Bool := if b = 0 then (0, false) else (if k = 15 then fr a b else fq a b, true)
/-- without a sign -/
def uns (a : Int) : Int := a % 18446744073709551616
def shl (a b : Int) : Int := if b < 0 ∨ 63 < b then 0 else wrap64 (a * 2 ^ b.toNat)
def shr (a b : Int) : Int := if b < 0 ∨ 63 < b then 0 else wrap64 (uns a / 2 ^ b.toNat)
def two (op a b : Int) : Int × Bool :=
  if op = 11 then (wrap64 (a + b), true)
  else if op = 12 then (wrap64 (a - b), true)
  else if op = 13 then (wrap64 (a * b), true)
  else if op = 14 ∨ op = 15 then fl a b op
  else if op = 17 then (bits .and .i64 a b, true)
  else if op = 18 then (bits .or .i64 a b, true)
  else if op = 19 then (bits .xor .i64 a b, true)
  else if op = 21 then (shl a b, true)
  else if op = 22 then (shr a b, true)
  else if op = 23 then (flag (decide (a = b)), true)
  else if op = 24 then (flag (decide (a < b)), true)
  else if op = 25 then (flag (decide (uns a < uns b)), true)
  else if op = 28 then (min a b, true)
  else if op = 29 then (max a b, true)
  else (0, false)
def joinV (op a b : Int) : Int := if op = 17 then bits .and .i64 a b else if op = 18 then bits .or .i64 a b else bits .xor .i64 a b
def shiftV (op a b : Int) : Int := if op = 21 then shl a b else shr a b
def holdsV (op a b : Int) : Bool := if op = 25 then decide (uns a < uns b) else if op = 24 then decide (a < b) else decide (a = b)
def pickV (op a b : Int) : Int := if op = 29 then max a b else min a b
def one (op a : Int) : Int × Bool :=
  if op = 16 then (wrap64 (-a), true)
  else if op = 20 then (-1 - a, true)
  else if op = 26 then (flag (decide (a = 0)), true)
  else if op = 27 then (flag (decide (a < 0)), true)
  else (0, false)
def crosses (x n : Int) : Bool := decide (bits .and .i64 (bits .xor .i64 x (wrap64 (x + n))) (bits .xor .i64 x n) < 0)

/-! ### a cell: a number of 64 bits with a sign -/
def In (a : Int) : Prop := -9223372036854775808 ≤ a ∧ a ≤ 9223372036854775807
theorem in_of_wf {a : Int} (h : (Lit.int .i64 a).wf = true) : In a := by
  simp only [Lit.wf, IntKind.min, IntKind.max, IntKind.signed, IntKind.bits, Bool.and_eq_true, decide_eq_true_eq, if_true] at h
  unfold In; omega
theorem wrap_in (n : Int) : In (wrap64 n) := by unfold In wrap64; omega
theorem wrap_of {n : Int} (h : In n) : wrap64 n = n := by unfold In at h; unfold wrap64; omega
theorem uns_of (a : Int) : IntKind.u64.wrap a = uns a := by simp [IntKind.wrap, IntKind.bits, IntKind.signed, uns]
theorem uns_lt (a : Int) : 0 ≤ uns a ∧ uns a < 18446744073709551616 := by unfold uns; omega
theorem uns_wrap (a : Int) : uns (wrap64 a) = uns a := by unfold uns wrap64; omega
theorem wrap_uns (a : Int) : wrap64 (uns a) = wrap64 a := by unfold uns wrap64; omega
theorem wrap_mul_left (a b : Int) : wrap64 (wrap64 a * b) = wrap64 (a * b) := by
  unfold wrap64
  have h : ((a + 9223372036854775808) % 18446744073709551616 - 9223372036854775808) = a - 18446744073709551616 * ((a + 9223372036854775808) / 18446744073709551616) := by omega
  rw [h, Int.sub_mul, Int.mul_assoc, show a * b - 18446744073709551616 * ((a + 9223372036854775808) / 18446744073709551616 * b) + 9223372036854775808 = (a * b + 9223372036854775808) - 18446744073709551616 * ((a + 9223372036854775808) / 18446744073709551616 * b) by omega]
  omega
theorem wrap_mul_right (a b : Int) : wrap64 (a * wrap64 b) = wrap64 (a * b) := by
  rw [Int.mul_comm, wrap_mul_left, Int.mul_comm]

/-! ### dividing, rounding down -/
theorem fmod_pos {a b : Int} (h : 0 < b) : 0 ≤ a.fmod b ∧ a.fmod b < b := ⟨Int.fmod_nonneg_of_pos a h, Int.fmod_lt_of_pos a h⟩
theorem fmod_neg {a b : Int} (h : b < 0) : b < a.fmod b ∧ a.fmod b ≤ 0 := by
  have e : a.fmod b = -((-a).fmod (-b)) := by rw [Int.neg_fmod_neg]; omega
  have := fmod_pos (a := -a) (b := -b) (by omega)
  omega
theorem fr_in {a b : Int} (hb : b ≠ 0) (h : In b) : In (fr a b) := by
  unfold In at *; unfold fr
  rcases Int.lt_or_gt_of_ne hb with h1 | h1
  · have := fmod_neg (a := a) h1; omega
  · have := fmod_pos (a := a) h1; omega
theorem tmod_sign {a b : Int} (h : ¬ a.tmod b = 0) : a.tmod b < 0 ↔ a < 0 := by
  constructor
  · intro h1
    by_cases h2 : 0 ≤ a
    · have := Int.tmod_nonneg b h2; omega
    · omega
  · intro h1
    have e : a.tmod b = -((-a).tmod b) := by rw [Int.neg_tmod]; omega
    have := Int.tmod_nonneg b (show 0 ≤ -a by omega)
    omega
theorem tmod_dvd {a b : Int} : b ∣ a ↔ a.tmod b = 0 := Int.dvd_iff_tmod_eq_zero
theorem sign_of_neg {b : Int} (h : b < 0) : b.sign = -1 := Int.sign_eq_neg_one_of_neg h
theorem sign_of_pos {b : Int} (h : 0 < b) : b.sign = 1 := Int.sign_eq_one_of_pos h
theorem floor1 {a b : Int} (h : a.tmod b = 0) : wrap64 (a.tdiv b) = fq a b ∧ (0 : Int) = fr a b := by
  unfold fq fr
  rw [Int.fdiv_eq_tdiv, Int.fmod_eq_tmod, if_pos (tmod_dvd.2 h), if_pos (tmod_dvd.2 h), h]
  simp
theorem floor2 {a b : Int} (hb : b ≠ 0) (ib : In b) (h : ¬ a.tmod b = 0) (g : (a.tmod b != 0) = true ∧ (!decide (a.tmod b < 0) == decide (b < 0)) = true) :
    wrap64 (wrap64 (a.tdiv b) - 1) = fq a b ∧ wrap64 (a.tmod b + b) = fr a b := by
  have hs := tmod_sign h
  have h2 : ¬ (a < 0 ↔ b < 0) := by
    intro h3
    have h4 := g.2
    simp only [hs, h3] at h4
    revert h4; cases decide (b < 0) <;> decide
  have hfr : In (a.fmod b) := fr_in hb ib
  have hq : a.fdiv b = a.tdiv b - 1 := by
    rw [Int.fdiv_eq_tdiv, if_neg (by rw [tmod_dvd]; exact h)]
    by_cases h0 : 0 ≤ a
    · rw [if_pos h0, if_neg (by omega)]
    · rw [if_neg h0, if_pos (by omega), sign_of_pos (by omega)]
  have hr : a.fmod b = a.tmod b + b := by
    rw [Int.fmod_eq_tmod, if_neg (by rw [tmod_dvd]; exact h)]
    by_cases h0 : 0 ≤ a
    · rw [if_pos h0, if_neg (by omega)]
    · rw [if_neg h0, if_pos (by omega)]; omega
  refine ⟨?_, ?_⟩
  · unfold fq; rw [hq]; unfold wrap64; omega
  · unfold fr; rw [← hr]; exact wrap_of hfr
theorem floor3 {a b : Int} (h : ¬ a.tmod b = 0) (g : (a.tmod b != 0) = false ∨ (!decide (a.tmod b < 0) == decide (b < 0)) = false) :
    wrap64 (a.tdiv b) = fq a b ∧ a.tmod b = fr a b := by
  have hs := tmod_sign h
  have h2 : (a < 0 ↔ b < 0) := by
    rcases g with g | g
    · simp [h] at g
    · simp only [hs] at g
      by_cases h1 : a < 0 <;> by_cases h3 : b < 0 <;> simp [h1, h3] at g ⊢
  have hq : a.fdiv b = a.tdiv b := by
    rw [Int.fdiv_eq_tdiv, if_neg (by rw [tmod_dvd]; exact h)]
    by_cases h0 : 0 ≤ a
    · rw [if_pos h0, if_pos (by omega)]; omega
    · rw [if_neg h0, if_neg (by omega), sign_of_neg (by omega)]; omega
  have hr : a.fmod b = a.tmod b := by
    rw [Int.fmod_eq_tmod, if_neg (by rw [tmod_dvd]; exact h)]
    by_cases h0 : 0 ≤ a
    · rw [if_pos h0, if_pos (by omega)]; omega
    · rw [if_neg h0, if_neg (by omega)]; omega
  unfold fq fr
  rw [hq, hr]; exact ⟨rfl, rfl⟩

/-! ### bits -/
theorem wrap_toNat (v : BitVec 64) : IntKind.i64.wrap (v.toNat : Int) = v.toInt := by
  have := v.isLt
  rw [BitVec.toInt_eq_toNat_cond, IntKind.wrap_i64]
  split <;> omega
theorem bits_and (x y : Int) : bits .and .i64 x y = (BitVec.ofInt 64 x &&& BitVec.ofInt 64 y).toInt := wrap_toNat _
theorem bits_or (x y : Int) : bits .or .i64 x y = (BitVec.ofInt 64 x ||| BitVec.ofInt 64 y).toInt := wrap_toNat _
theorem bits_xor (x y : Int) : bits .xor .i64 x y = (BitVec.ofInt 64 x ^^^ BitVec.ofInt 64 y).toInt := wrap_toNat _
theorem toInt_of {x : Int} (h : In x) : (BitVec.ofInt 64 x).toInt = x := by
  unfold In at h
  rw [BitVec.toInt_ofInt]
  simp only [Int.bmod]; split <;> omega
theorem toInt_wrap (x : Int) : (BitVec.ofInt 64 x).toInt = wrap64 x := by
  rw [BitVec.toInt_ofInt]; unfold wrap64
  simp only [Int.bmod]; split <;> omega
theorem toInt_in (v : BitVec 64) : In v.toInt := by
  have h1 := v.toInt_lt; have h2 := v.le_toInt
  unfold In; simp at h1 h2; omega
theorem msb_of {x : Int} (h : In x) : (BitVec.ofInt 64 x).msb = decide (x < 0) := by
  rw [BitVec.msb_eq_toInt, toInt_of h]
theorem bits_in (op : BinOp) (x y : Int) : In (bits op .i64 x y) := by
  unfold bits
  cases op <;> exact (wrap_toNat _ ▸ toInt_in _)
theorem and_neg {x y : Int} (hx : In x) (hy : In y) : bits .and .i64 x y < 0 ↔ x < 0 ∧ y < 0 := by
  have h : (BitVec.ofInt 64 x &&& BitVec.ofInt 64 y).msb = decide (bits .and .i64 x y < 0) := by rw [BitVec.msb_eq_toInt, bits_and]
  rw [BitVec.msb_and, msb_of hx, msb_of hy] at h
  by_cases h1 : x < 0 <;> by_cases h2 : y < 0 <;> simp [h1, h2] at h ⊢ <;> omega
theorem xor_neg {x y : Int} (hx : In x) (hy : In y) : bits .xor .i64 x y < 0 ↔ ¬ (x < 0 ↔ y < 0) := by
  have h : (BitVec.ofInt 64 x ^^^ BitVec.ofInt 64 y).msb = decide (bits .xor .i64 x y < 0) := by rw [BitVec.msb_eq_toInt, bits_xor]
  rw [BitVec.msb_xor, msb_of hx, msb_of hy] at h
  by_cases h1 : x < 0 <;> by_cases h2 : y < 0 <;> simp [h1, h2] at h ⊢ <;> omega
theorem crosses_iff {x n : Int} (hx : In x) (hn : In n) : crosses x n = true ↔ ¬ (x < 0 ↔ wrap64 (x + n) < 0) ∧ ¬ (x < 0 ↔ n < 0) := by
  unfold crosses
  rw [decide_eq_true_eq, and_neg (bits_in _ _ _) (bits_in _ _ _), xor_neg hx (wrap_in _), xor_neg hx hn]
theorem xor_top (X : Nat) (h : X < 18446744073709551616) : X ^^^ 9223372036854775808 = if X < 9223372036854775808 then X + 9223372036854775808 else X - 9223372036854775808 := by
  have h1 : (X ^^^ 2 ^ 63) % 2 ^ 63 = X % 2 ^ 63 := by rw [Nat.xor_mod_two_pow]; simp
  have h2 : (X ^^^ 2 ^ 63) / 2 ^ 63 = X / 2 ^ 63 ^^^ 1 := by rw [Nat.xor_div_two_pow]
  simp only [Nat.reducePow] at h1 h2
  split
  · rw [show X / 9223372036854775808 = 0 by omega] at h2
    simp at h2; omega
  · rw [show X / 9223372036854775808 = 1 by omega] at h2
    simp at h2; omega
theorem xor_least (a : Int) : bits .xor .i64 a (-9223372036854775808) = uns a - 9223372036854775808 := by
  have h := uns_lt a
  have e1 : (BitVec.ofInt 64 a).toNat = (uns a).toNat := by rw [BitVec.toNat_ofInt]; rfl
  have e2 : (BitVec.ofInt 64 (-9223372036854775808)).toNat = 9223372036854775808 := by decide
  show IntKind.i64.wrap ((BitVec.ofInt 64 a ^^^ BitVec.ofInt 64 (-9223372036854775808)).toNat : Int) = _
  rw [BitVec.toNat_xor, e1, e2, xor_top _ (by omega)]
  rw [IntKind.wrap_i64]
  split <;> omega
theorem order_uns (a b : Int) : decide (bits .xor .i64 a (-9223372036854775808) < bits .xor .i64 b (-9223372036854775808)) = decide (uns a < uns b) := by
  rw [xor_least, xor_least]; congr 1; apply propext; omega
theorem not_of {a : Int} (h : In a) : bits .xor .i64 (-1) a = -1 - a := by
  rw [bits_xor]
  have h1 : BitVec.ofInt 64 (-1) = BitVec.allOnes 64 := by decide
  rw [h1, BitVec.allOnes_xor, BitVec.toInt_not, BitVec.toNat_ofInt]
  unfold In at h
  simp only [Int.bmod]; split <;> omega
theorem and_add_or (a b : Nat) : (a &&& b) + (a ||| b) = a + b := by
  induction a using Nat.strongRecOn generalizing b with
  | _ a ih =>
    by_cases h : a = 0
    · subst h; simp
    · have ih' := ih (a / 2) (by omega) (b / 2)
      have d1 : (a &&& b) / 2 = a / 2 &&& b / 2 := Nat.and_div_two
      have d2 : (a ||| b) / 2 = a / 2 ||| b / 2 := Nat.or_div_two
      have m1 : (a &&& b) % 2 = a % 2 &&& b % 2 := by have := Nat.and_mod_two_pow (a := a) (b := b) (n := 1); simpa using this
      have m2 : (a ||| b) % 2 = a % 2 ||| b % 2 := by have := Nat.or_mod_two_pow (a := a) (b := b) (n := 1); simpa using this
      have : a % 2 = 0 ∨ a % 2 = 1 := by omega
      have : b % 2 = 0 ∨ b % 2 = 1 := by omega
      have m3 : (a &&& b) % 2 + (a ||| b) % 2 = a % 2 + b % 2 := by
        rw [m1, m2]
        rcases ‹a % 2 = 0 ∨ a % 2 = 1› with h1 | h1 <;> rcases ‹b % 2 = 0 ∨ b % 2 = 1› with h2 | h2 <;> rw [h1, h2] <;> decide
      omega
theorem xor_add_and (a b : Nat) : (a ^^^ b) + (a &&& b) = (a ||| b) := by
  induction a using Nat.strongRecOn generalizing b with
  | _ a ih =>
    by_cases h : a = 0
    · subst h; simp
    · have ih' := ih (a / 2) (by omega) (b / 2)
      have d1 : (a &&& b) / 2 = a / 2 &&& b / 2 := Nat.and_div_two
      have d2 : (a ||| b) / 2 = a / 2 ||| b / 2 := Nat.or_div_two
      have d3 : (a ^^^ b) / 2 = a / 2 ^^^ b / 2 := Nat.xor_div_two
      have m1 : (a &&& b) % 2 = a % 2 &&& b % 2 := by have := Nat.and_mod_two_pow (a := a) (b := b) (n := 1); simpa using this
      have m2 : (a ||| b) % 2 = a % 2 ||| b % 2 := by have := Nat.or_mod_two_pow (a := a) (b := b) (n := 1); simpa using this
      have m4 : (a ^^^ b) % 2 = a % 2 ^^^ b % 2 := by have := Nat.xor_mod_two_pow (a := a) (b := b) (n := 1); simpa using this
      have : a % 2 = 0 ∨ a % 2 = 1 := by omega
      have : b % 2 = 0 ∨ b % 2 = 1 := by omega
      have m3 : (a ^^^ b) % 2 + (a &&& b) % 2 = (a ||| b) % 2 := by
        rw [m1, m2, m4]
        rcases ‹a % 2 = 0 ∨ a % 2 = 1› with h1 | h1 <;> rcases ‹b % 2 = 0 ∨ b % 2 = 1› with h2 | h2 <;> rw [h1, h2] <;> decide
      omega

/-! ### the parts of 'two' and 'one' as their callees tell them -/
theorem join1 {op a b : Int} (h : (op == 17) = true) : bits .and .i64 a b = joinV op a b := by
  have : op = 17 := by simpa using h
  subst this; rfl
theorem join2 {op a b : Int} (h : (op == 18) = true) : bits .or .i64 a b = joinV op a b := by
  have : op = 18 := by simpa using h
  subst this; rfl
theorem join3 {op a b : Int} (h : (op == 17) = false) (g : (op == 18) = false) : bits .xor .i64 a b = joinV op a b := by
  have h' : op ≠ 17 := by simpa using h
  have g' : op ≠ 18 := by simpa using g
  unfold joinV; rw [if_neg h', if_neg g']
theorem shift1 {op a b : Int} (h : b < 0 ∨ 63 < b) : (0 : Int) = shiftV op a b := by
  unfold shiftV shl shr; rw [if_pos h, if_pos h]; simp
theorem shift2 {op a b : Int} (h : (op == 21) = true) (h0 : 0 ≤ b) (h1 : b ≤ 63) : wrap64 (a * 2 ^ b.toNat) = shiftV op a b := by
  have h' : op = 21 := by simpa using h
  unfold shiftV shl; rw [if_pos h', if_neg (by omega)]
theorem shift3 {op a b : Int} (h : (op == 21) = false) (h0 : 0 ≤ b) (h1 : b ≤ 63) : wrap64 (IntKind.u64.wrap a / 2 ^ b.toNat) = shiftV op a b := by
  have h' : op ≠ 21 := by simpa using h
  unfold shiftV shr; rw [if_neg h', if_neg (by omega), uns_of]
theorem holds1 {op a b : Int} (h : (op == 25) = true) : decide (bits .xor .i64 a (-9223372036854775808) < bits .xor .i64 b (-9223372036854775808)) = holdsV op a b := by
  have h' : op = 25 := by simpa using h
  rw [order_uns]; subst h'; rfl
theorem holds2 {op a b : Int} (h : (op == 24) = true) : decide (a < b) = holdsV op a b := by
  have h' : op = 24 := by simpa using h
  subst h'; rfl
theorem holds3 {op a b : Int} (h : (op == 25) = false) (g : (op == 24) = false) : (a == b) = holdsV op a b := by
  have h' : op ≠ 25 := by simpa using h
  have g' : op ≠ 24 := by simpa using g
  unfold holdsV; rw [if_neg h', if_neg g']; rfl
theorem pick1 {op a b : Int} (h : ((op == 29) == decide (a < b)) = true) : b = pickV op a b := by
  unfold pickV
  by_cases h1 : op = 29 <;> by_cases h2 : a < b <;> simp [h1, h2] at h ⊢ <;> omega
theorem pick2 {op a b : Int} (h : ((op == 29) == decide (a < b)) = false) : a = pickV op a b := by
  unfold pickV
  by_cases h1 : op = 29 <;> by_cases h2 : a < b <;> simp [h1, h2] at h ⊢ <;> omega
theorem sub_of (a b : Int) : wrap64 (a + wrap64 (-b)) = wrap64 (a - b) := by unfold wrap64; omega
theorem not_sub {a : Int} (h : In a) : wrap64 (-1 - a) = -1 - a := by unfold In at h; unfold wrap64; omega
theorem neg_of (a : Int) : bits .xor .i64 (-1) (wrap64 (a - 1)) = wrap64 (-a) := by
  rw [not_of (wrap_in _)]; unfold wrap64; omega
end Go.Proofs.YtlomfmilohbgpaaGreatDoor.Cell
