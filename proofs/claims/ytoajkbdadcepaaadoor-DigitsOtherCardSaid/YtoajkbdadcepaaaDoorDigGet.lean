/- The walk of digits.Get. -/
import Derived.Test.YtoajkbdadcepaaaDoorDigWalks
namespace Go.Proofs.YtoajkbdadcepaaaDoor
open Go.RowKit
set_option linter.unusedSimpArgs false
set_option linter.unusedVariables false

theorem size_len (s : ByteArray) : s.data.toList.length = s.size := Array.length_toList
theorem at_data (s : ByteArray) (k : Nat) (h : k < s.size) : s.data.toList[k]? = some s[k] := by
  rw [Array.getElem?_toList]
  exact Array.getElem?_eq_getElem h
set_option maxHeartbeats 1000000 in
theorem get_wrong (s : ByteArray) (b : Int) (hb : Dig.rightB b = false) (w : World) :
    Calls Tryd.prog 8 #[.string s, .int .i64 b] w fun e w' => e = Num (Dig.getV s.data.toList b) ∧ w = w' := by
  have e : Dig.getV s.data.toList b = (0, false) := by unfold Dig.getV; rw [if_neg (by rw [hb]; exact Bool.false_ne_true)]
  rw [e]
  have R := Lib.hid (right_no b hb)
  clear e hb
  go_enter Tryd.func8, Tryd.ntmps8
  go_wp2_with (go_at_call 12; refine (R.out _).mono ?_; rintro e w' ⟨rfl, rfl⟩)
  go_ret2
  exact ⟨rfl, rfl⟩
theorem num_byte (c : UInt8) : Ending.returned (.tuple #[.int .i64 (wrap64 c.toNat), .bool true]) = Num (c.toNat, true) := by
  have := c.toNat_lt
  have e : wrap64 (c.toNat : Int) = c.toNat := by unfold wrap64; omega
  rw [e]
theorem list3 {l : List UInt8} (h : l.length = 3) : ∃ a b c, l = [a, b, c] := by
  match l, h with
  | [a, b, c], _ => exact ⟨a, b, c, rfl⟩
/-- the three ways past the apostrophes' test, and the one into it -/
theorem quoted_cases (s : ByteArray) :
    (((s.size : Int) == 3) = false ∧ Dig.quoted s.data.toList = none)
    ∨ (∃ h0 : 2 < s.size, ((s.size : Int) == 3) = true ∧ (((s[0]'(by omega)).toNat : Int) == 39) = false ∧ Dig.quoted s.data.toList = none)
    ∨ (∃ h0 : 2 < s.size, ((s.size : Int) == 3) = true ∧ (((s[0]'(by omega)).toNat : Int) == 39) = true ∧ (((s[2]'(by omega)).toNat : Int) == 39) = false ∧ Dig.quoted s.data.toList = none)
    ∨ (∃ h0 : 2 < s.size, ((s.size : Int) == 3) = true ∧ (((s[0]'(by omega)).toNat : Int) == 39) = true ∧ (((s[2]'(by omega)).toNat : Int) == 39) = true ∧ Dig.quoted s.data.toList = some (s[1]'(by omega))) := by
  have hl := size_len s
  by_cases h3 : s.size = 3
  · obtain ⟨a, b, c, e⟩ := list3 (hl.trans h3)
    have k0 := at_data s 0 (by omega)
    have k1 := at_data s 1 (by omega)
    have k2 := at_data s 2 (by omega)
    rw [e] at k0 k1 k2 ⊢
    simp only [List.getElem?_cons_zero, List.getElem?_cons_succ, Option.some.injEq] at k0 k1 k2
    have hs : ((s.size : Int) == 3) = true := by rw [beq_iff_eq]; omega
    have e39 : ∀ x : UInt8, ((x.toNat : Int) == 39) = decide (x = 39) := fun x => by
      rw [Bool.eq_iff_iff, beq_iff_eq, decide_eq_true_eq]
      exact ⟨fun h => UInt8.toNat_inj.1 (by have : (39 : UInt8).toNat = 39 := rfl; omega), fun h => by rw [h]; rfl⟩
    by_cases ha : a = 39
    · by_cases hc : c = 39
      · exact .inr (.inr (.inr ⟨by omega, hs, by rw [← k0, e39]; simpa using ha, by rw [← k2, e39]; simpa using hc, by rw [← k1]; simp [Dig.quoted, ha, hc]⟩))
      · exact .inr (.inr (.inl ⟨by omega, hs, by rw [← k0, e39]; simpa using ha, by rw [← k2, e39]; simpa using hc, by simp [Dig.quoted, hc]⟩))
    · exact .inr (.inl ⟨by omega, hs, by rw [← k0, e39]; simpa using ha, by simp [Dig.quoted, ha]⟩)
  · refine .inl ⟨by rw [beq_eq_false_iff_ne]; omega, ?_⟩
    unfold Dig.quoted
    split
    · rename_i e; rw [e] at hl; simp at hl; omega
    · rfl
set_option maxHeartbeats 2000000 in
theorem get_quoted (s : ByteArray) (b : Int) (hb : Dig.rightB b = true) (h0 : 2 < s.size) (h3 : ((s.size : Int) == 3) = true) (ha : (((s[0]'(by omega)).toNat : Int) == 39) = true) (hc : (((s[2]'(by omega)).toNat : Int) == 39) = true)
    (hq : Dig.quoted s.data.toList = some (s[1]'(by omega))) (w : World) :
    Calls Tryd.prog 8 #[.string s, .int .i64 b] w fun e w' => e = Num (Dig.getV s.data.toList b) ∧ w = w' := by
  have e : Dig.getV s.data.toList b = (((s[1]'(by omega)).toNat : Int), true) := by unfold Dig.getV; rw [if_pos hb, hq]
  rw [e]
  have R := Lib.hid (right_yes b hb)
  have g0 : 0 < s.size := by omega
  have g1 : 1 < s.size := by omega
  clear e hb hq
  go_enter Tryd.func8, Tryd.ntmps8
  go_wp2_with (go_at_call 12; refine (R.out _).mono ?_; rintro e w' ⟨rfl, rfl⟩)
  go_ret2
  exact ⟨num_byte _, rfl⟩
theorem rest_split (l : List UInt8) (b : Int) : ∃ m nb b' o, (Dig.minus (Dig.signed l b).1) = (m, nb) ∧ (Dig.signed l b).2 = b' ∧ Dig.numV m b' = o := ⟨_, _, _, _, rfl, rfl, rfl⟩
theorem neg_zero : wrap64 (-0) = 0 := by unfold wrap64; omega
theorem num_some (v : Int) (nb : Bool) : Dig.withSign nb (some v) = (if nb = true then wrap64 (-v) else v, true) := rfl
theorem emp_of (s : ByteArray) : s.toList.isEmpty = decide (s.size = 0) := by
  rw [Lib.toList_data, ← size_len]
  cases s.data.toList <;> simp
theorem text_len {l : List UInt8} : (⟨l.toArray⟩ : ByteArray).size = l.length := rfl
theorem text_data {l : List UInt8} : (⟨l.toArray⟩ : ByteArray).data.toList = l := rfl
set_option maxHeartbeats 4000000 in
theorem get_rest (s : ByteArray) (b : Int) (hb : Dig.rightB b = true) (hs : s.size ≤ maxLen) (hq : Dig.quoted s.data.toList = none)
    (hw : ((s.size : Int) == 3) = false ∨ (∃ h0 : 2 < s.size, ((s.size : Int) == 3) = true ∧ (((s[0]'(by omega)).toNat : Int) == 39) = false) ∨ (∃ h0 : 2 < s.size, ((s.size : Int) == 3) = true ∧ (((s[0]'(by omega)).toNat : Int) == 39) = true ∧ (((s[2]'(by omega)).toNat : Int) == 39) = false)) (w : World) :
    Calls Tryd.prog 8 #[.string s, .int .i64 b] w fun e w' => e = Num (Dig.getV s.data.toList b) ∧ w = w' := by
  have e : Dig.getV s.data.toList b = Dig.withSign (Dig.minus (Dig.signed s.data.toList b).1).2 (Dig.numV (Dig.minus (Dig.signed s.data.toList b).1).1 (Dig.signed s.data.toList b).2) := by unfold Dig.getV; rw [if_pos hb, hq]
  rw [e]
  have R := Lib.hid (right_yes b hb)
  have hb' := hb
  simp only [Dig.rightB, Bool.and_eq_true, decide_eq_true_eq] at hb'
  obtain ⟨b0, b1⟩ := hb'
  have hl := size_len s
  have ne := emp_of s
  clear e hb hq
  by_cases hz : s.size = 0
  · have hd : s.data.toList = [] := List.eq_nil_of_length_eq_zero (by omega)
    obtain rfl : s = ⟨#[]⟩ := ByteArray.ext (Array.eq_empty_of_size_eq_zero hz)
    have C := Lib.hid (cut_any ⟨#[]⟩)
    have N := Lib.hid (number_any ⟨#[]⟩ b b0 b1 (by decide))
    clear hw hl ne hz hs
    go_enter Tryd.func8, Tryd.ntmps8
    go_wp2_with (first | (go_at_call 12; refine (R.out _).mono ?_; rintro e w' ⟨rfl, rfl⟩) | (go_at_call 14; refine (C.out _).mono ?_; rintro e w' ⟨rfl, rfl⟩) | (go_at_call 15; refine (N.out _).mono ?_; rintro e w' ⟨rfl, rfl⟩))
    go_ret2
    exact ⟨rfl, rfl⟩
  · have ne' : s.toList.isEmpty = false := by rw [ne, decide_eq_false_iff_not]; exact hz
    have g0 : 0 < s.size := by omega
    clear ne hz
    have hh : s.data.toList = s[0] :: s.data.toList.drop 1 := by
      rw [← List.drop_zero (l := s.data.toList), List.drop_eq_getElem_cons (by omega)]; rfl
    have hs1 : (s.extract 1 s.size).data.toList = s.data.toList.drop 1 := by rw [Lib.extract_data, List.take_of_length_le (by simp)]
    by_cases hg : Dig.signV s[0] = 0
    · have e1 : Dig.signed s.data.toList b = (s.data.toList, b) := by rw [hh]; simp [Dig.signed, hg]
      have S := Lib.hid (sign_any s[0])
      have C := Lib.hid (cut_any s)
      have hm := minus_len s.data.toList
      rw [e1]
      rw [hg] at S
      obtain ⟨m, nb, hmn⟩ : ∃ m nb, Dig.minus s.data.toList = (m, nb) := ⟨_, _, rfl⟩
      rw [hmn] at hm C ⊢
      simp only at hm C ⊢
      have N := Lib.hid (number_any ⟨m.toArray⟩ b b0 b1 (by rw [text_len]; unfold maxLen at *; omega))
      rw [text_data] at N
      generalize Dig.numV m b = o at *
      clear hmn hm e1 hg hs1 hh hl
      rcases hw with h1 | ⟨k0, h1, h2⟩ | ⟨k0, h1, h2, h3⟩
      all_goals
        cases nb <;> cases o
        all_goals
          simp only [Dig.withSign, if_true, if_false, Bool.false_eq_true] at N ⊢
          go_enter Tryd.func8, Tryd.ntmps8
          go_wp2_with (first | (go_at_call 12; refine (R.out _).mono ?_; rintro e w' ⟨rfl, rfl⟩) | (go_at_call 13; refine (S.out _).mono ?_; rintro e w' ⟨rfl, rfl⟩) | (go_at_call 14; refine (C.out _).mono ?_; rintro e w' ⟨rfl, rfl⟩) | (go_at_call 15; refine (N.out _).mono ?_; rintro e w' ⟨rfl, rfl⟩))
          go_ret2
          exact ⟨by first | rfl | rw [neg_zero], rfl⟩
    · have hr := signV_range _ hg
      have e1 : Dig.signed s.data.toList b = (s.data.toList.drop 1, Dig.signV s[0]) := by rw [hh]; simp [Dig.signed, hg]
      have S := Lib.hid (sign_any s[0])
      have C := Lib.hid (cut_any (s.extract 1 s.size))
      have hm := minus_len (s.data.toList.drop 1)
      have hdl : (s.data.toList.drop 1).length ≤ s.size := by simp
      rw [hs1] at C
      rw [e1]
      have hgb : (Dig.signV s[0] == 0) = false := by simpa using hg
      generalize Dig.signV s[0] = g at *
      obtain ⟨m, nb, hmn⟩ : ∃ m nb, Dig.minus (s.data.toList.drop 1) = (m, nb) := ⟨_, _, rfl⟩
      rw [hmn] at hm C ⊢
      simp only at hm C ⊢
      have N := Lib.hid (number_any ⟨m.toArray⟩ g hr.1 hr.2 (by rw [text_len]; unfold maxLen at *; omega))
      rw [text_data] at N
      generalize Dig.numV m g = o at *
      clear hmn hm e1 hg hs1 hh hl hdl
      obtain ⟨r0, r1⟩ := hr
      rcases hw with h1 | ⟨k0, h1, h2⟩ | ⟨k0, h1, h2, h3⟩
      all_goals
        cases nb <;> cases o
        all_goals
          simp only [Dig.withSign, if_true, if_false, Bool.false_eq_true] at N ⊢
          go_enter Tryd.func8, Tryd.ntmps8
          go_wp2_with (first | (go_at_call 12; refine (R.out _).mono ?_; rintro e w' ⟨rfl, rfl⟩) | (go_at_call 13; refine (S.out _).mono ?_; rintro e w' ⟨rfl, rfl⟩) | (go_at_call 14; refine (C.out _).mono ?_; rintro e w' ⟨rfl, rfl⟩) | (go_at_call 15; refine (N.out _).mono ?_; rintro e w' ⟨rfl, rfl⟩))
          go_ret2
          exact ⟨by first | rfl | rw [neg_zero], rfl⟩
theorem get_any (s : ByteArray) (b : Int) (hs : s.size ≤ maxLen) (w : World) :
    Calls Tryd.prog 8 #[.string s, .int .i64 b] w fun e w' => e = Num (Dig.getV s.data.toList b) ∧ w = w' := by
  cases hb : Dig.rightB b with
  | false => exact get_wrong s b hb w
  | true =>
    rcases quoted_cases s with ⟨h1, hq⟩ | ⟨h0, h1, h2, hq⟩ | ⟨h0, h1, h2, h3, hq⟩ | ⟨h0, h1, h2, h3, hq⟩
    · exact get_rest s b hb hs hq (.inl h1) w
    · exact get_rest s b hb hs hq (.inr (.inl ⟨h0, h1, h2⟩)) w
    · exact get_rest s b hb hs hq (.inr (.inr ⟨h0, h1, h2, h3⟩)) w
    · exact get_quoted s b hb h0 h1 h2 h3 hq w
end Go.Proofs.YtoajkbdadcepaaaDoor
