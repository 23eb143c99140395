/- More plain facts of digits: letters great or small; a digit that is not below its base. -/
import Derived.Test.YtoajkbdadcepaaaDoorDigPlain
namespace Go.Proofs.YtoajkbdadcepaaaDoor.Dig
open Go.RowKit (wrap64)
theorem low_same_fin : ∀ n : Fin 256, dig (Lib.lowerB (UInt8.ofNat n.val)) = dig (UInt8.ofNat n.val) ∧ signV (Lib.lowerB (UInt8.ofNat n.val)) = signV (UInt8.ofNat n.val) ∧ (Lib.lowerB (UInt8.ofNat n.val) = 45 ↔ UInt8.ofNat n.val = 45) ∧ (Lib.lowerB (UInt8.ofNat n.val) = 39 ↔ UInt8.ofNat n.val = 39) := by decide +kernel
theorem low_same (c : UInt8) : dig (Lib.lowerB c) = dig c ∧ signV (Lib.lowerB c) = signV c ∧ (Lib.lowerB c = 45 ↔ c = 45) ∧ (Lib.lowerB c = 39 ↔ c = 39) := by
  have h := low_same_fin ⟨c.toNat, c.toNat_lt⟩
  rwa [UInt8.ofNat_toNat] at h
theorem numL_low (b : Int) : ∀ (l : List UInt8) (a : Int), numL b a (l.map Lib.lowerB) = numL b a l
  | [], _ => rfl
  | c :: r, a => by simp only [List.map_cons, numL, (low_same c).1, numL_low b r]
theorem numV_low (b : Int) (l : List UInt8) : numV (l.map Lib.lowerB) b = numV l b := by
  unfold numV
  rw [numL_low, List.length_map]
  simp
theorem signed_low (l : List UInt8) (b : Int) : signed (l.map Lib.lowerB) b = ((signed l b).1.map Lib.lowerB, (signed l b).2) := by
  cases l with
  | nil => rfl
  | cons c r =>
    simp only [List.map_cons, signed, (low_same c).2.1]
    split <;> rfl
theorem minus_low (l : List UInt8) : minus (l.map Lib.lowerB) = ((minus l).1.map Lib.lowerB, (minus l).2) := by
  cases l with
  | nil => rfl
  | cons c r =>
    simp only [List.map_cons, minus, (low_same c).2.2.1]
    split <;> rfl
theorem quoted_low {l : List UInt8} (h : ¬ (l.length = 3 ∧ l.head? = some 39)) : quoted l = none ∧ quoted (l.map Lib.lowerB) = none := by
  match l, h with
  | [], _ => exact ⟨rfl, rfl⟩
  | [_], _ => exact ⟨rfl, rfl⟩
  | [_, _], _ => exact ⟨rfl, rfl⟩
  | [a, c, b], h =>
    have ha : ¬ a = 39 := fun e => h ⟨rfl, by rw [e]; rfl⟩
    refine ⟨quoted_head ha, quoted_head (fun e => ha ((low_same a).2.2.2.1 e))⟩
  | _ :: _ :: _ :: _ :: _, _ => exact ⟨rfl, rfl⟩
theorem get_low {l : List UInt8} {b : Int} (h : ¬ (l.length = 3 ∧ l.head? = some 39)) : getV (l.map Lib.lowerB) b = getV l b := by
  unfold getV
  rw [(quoted_low h).1, (quoted_low h).2, signed_low, minus_low, numV_low]
theorem get_byte {b : Int} (hb : rightB b = true) (c : UInt8) : getV [39, c, 39] b = ((c.toNat : Int), true) := by
  unfold getV
  rw [if_pos hb]
  rfl
theorem numL_none {b : Int} {c : UInt8} (hc : b ≤ dig c) : ∀ (l : List UInt8) (a : Int), c ∈ l → numL b a l = none
  | d :: r, a, h => by
    unfold numL
    by_cases hd : b ≤ dig d
    · rw [if_pos hd]
    · rw [if_neg hd]
      rcases List.mem_cons.1 h with rfl | h
      · exact absurd hc hd
      · exact numL_none hc r _ h
theorem numV_none {b : Int} {c : UInt8} {l : List UInt8} (hc : b ≤ dig c) (h : c ∈ l) : numV l b = none := by
  unfold numV
  rw [numL_none hc l 0 h]
  split <;> rfl
theorem plain_get {l : List UInt8} {b : Int} {c : UInt8} (hp : ∀ x ∈ l, Plain x) (hc : b ≤ dig c) (h : c ∈ l) : getV l b = (0, false) := by
  unfold getV
  split
  · cases l with
    | nil => cases h
    | cons x r =>
      obtain ⟨p1, p2, p3⟩ := hp x List.mem_cons_self
      rw [quoted_head p3]
      simp only [signed, if_pos p1, minus, if_neg p2]
      rw [numV_none hc h]
      rfl
  · rfl
theorem minus_get {l : List UInt8} {b : Int} {c : UInt8} (hc : b ≤ dig c) (h : c ∈ l) : getV (45 :: l) b = (0, false) := by
  unfold getV
  split
  · rw [quoted_head (by decide)]
    simp only [signed, if_pos (show signV 45 = 0 from by decide), minus, if_true]
    rw [numV_none hc h]
    rfl
  · rfl
/-- a digit that is not below the base, wherever it stands behind the minus: none -/
theorem other_get {v : Int} {b d k : Nat} (hb : 2 ≤ b) (h36 : b ≤ 36) (hd : b ≤ d) (hd35 : d < 36) (hk : v < 0 → 1 ≤ k) :
    getV ((putV upD v b).take k ++ [upD d] ++ (putV upD v b).drop k) b = (0, false) := by
  have hp := digs_plain (u := v.natAbs) hb h36
  have hdd : (b : Int) ≤ dig (upD d) := by rw [dig_up hd35]; omega
  have hm : ∀ (A B : List UInt8), upD d ∈ A ++ [upD d] ++ B := fun A B => by simp
  unfold putV sgn
  rw [Int.toNat_natCast]
  by_cases h : v < 0
  · rw [if_pos h]
    obtain ⟨m, rfl⟩ : ∃ m, k = m + 1 := ⟨k - 1, by have := hk h; omega⟩
    simp only [List.take_succ_cons, List.drop_succ_cons, List.cons_append]
    exact minus_get hdd (hm _ _)
  · rw [if_neg h, List.nil_append]
    refine plain_get (fun x hx => ?_) hdd (hm _ _)
    rcases List.mem_append.1 hx with hx | hx
    · rcases List.mem_append.1 hx with hx | hx
      · exact hp x (List.mem_of_mem_take hx)
      · rw [List.mem_singleton.1 hx]; exact up_plain hd35
    · exact hp x (List.mem_of_mem_drop hx)
theorem get_none {b : Int} : getV [] b = (0, false) ∧ getV [45] b = (0, false) := by
  constructor
  · unfold getV
    split
    · rfl
    · rfl
  · unfold getV
    split
    · rfl
    · rfl
theorem put_one {d : Nat} (h : d < 36) : putV upD (d : Int) 36 = [upD d] := by
  unfold putV sgn
  rw [if_neg (by omega), List.nil_append]
  unfold digs
  rw [show ((d : Int)).natAbs = d from by omega, show (36 : Int).toNat = 36 from rfl, nd_eq (n := 1) (by decide) (by omega) ⟨by decide, by simpa using h, .inl rfl⟩]
  simp [suf, Nat.mod_eq_of_lt h]
end Go.Proofs.YtoajkbdadcepaaaDoor.Dig
