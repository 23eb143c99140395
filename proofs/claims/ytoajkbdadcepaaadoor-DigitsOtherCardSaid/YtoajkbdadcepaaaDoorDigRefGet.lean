/- The walk of the document's own Get (hollowayref1: digits). -/
import Derived.Test.YtoajkbdadcepaaaDoorDigGet
import Derived.Deep.DeepCutAuto
namespace Go.Proofs.YtoajkbdadcepaaaDoor
open Go.RowKit
set_option linter.unusedSimpArgs false
set_option linter.unusedVariables false

/-- hollowayref1 tells 99 of what is no digit -/
def digR (c : UInt8) : Int := if Dig.dig c = 36 then 99 else Dig.dig c
theorem digR_le (c : UInt8) {b : Int} (h : b ≤ 36) : b ≤ digR c ↔ b ≤ Dig.dig c := by
  unfold digR
  split <;> omega
theorem digR_of (c : UInt8) {b : Int} (h : b ≤ 36) (hd : ¬ b ≤ Dig.dig c) : digR c = Dig.dig c := by
  unfold digR
  rw [if_neg (by omega)]
set_option maxHeartbeats 1000000 in
theorem refDigit_any (c : UInt8) (w : World) :
    Calls Tryd.prog 16 #[.int .u8 c.toNat] w fun e w' => e = .returned (.int .i64 (digR c)) ∧ w = w' := by
  have hc := c.toNat_lt
  unfold digR
  rcases dig_cases c with ⟨h, e⟩ | ⟨h, h', e⟩ | ⟨h, h', e⟩ | ⟨h, h', e⟩ | ⟨h, h', e⟩ | ⟨h, h', e⟩ | ⟨h, e⟩
  all_goals
    rw [e]
    clear e
    generalize hn : (c.toNat : Int) = n at *
    have h0 : 0 ≤ n := by omega
    have h255 : n ≤ 255 := by omega
    clear hn hc
    first | rw [if_pos rfl] | rw [if_neg (by omega)]
    go_enter Tryd.func16, Tryd.ntmps16
    go_wp2
    go_ret
    exact ⟨ret_int (by first | rfl | omega), rfl⟩
theorem sign_forms (s : ByteArray) (b : Int) : ∃ (sg : Bool) (s1 : ByteArray) (b1 : Int), Dig.signed s.data.toList b = (s1.data.toList, b1) ∧ s1.size ≤ s.size ∧
    ((s.toList.isEmpty = true ∧ sg = false ∧ s1 = s ∧ b1 = b)
    ∨ (∃ h : 0 < s.size, s.toList.isEmpty = false ∧ ((s[0].toNat : Int) == 35) = true ∧ sg = true ∧ s1 = s.extract 1 s.size ∧ b1 = 10)
    ∨ (∃ h : 0 < s.size, s.toList.isEmpty = false ∧ ((s[0].toNat : Int) == 35) = false ∧ ((s[0].toNat : Int) == 36) = true ∧ sg = true ∧ s1 = s.extract 1 s.size ∧ b1 = 16)
    ∨ (∃ h : 0 < s.size, s.toList.isEmpty = false ∧ ((s[0].toNat : Int) == 35) = false ∧ ((s[0].toNat : Int) == 36) = false ∧ ((s[0].toNat : Int) == 37) = true ∧ sg = true ∧ s1 = s.extract 1 s.size ∧ b1 = 2)
    ∨ (∃ h : 0 < s.size, s.toList.isEmpty = false ∧ ((s[0].toNat : Int) == 35) = false ∧ ((s[0].toNat : Int) == 36) = false ∧ ((s[0].toNat : Int) == 37) = false ∧ sg = false ∧ s1 = s ∧ b1 = b)) := by
  have hl := size_len s
  by_cases hz : s.size = 0
  · have hd : s.data.toList = [] := List.eq_nil_of_length_eq_zero (by omega)
    exact ⟨false, s, b, by rw [hd]; rfl, Nat.le_refl _, .inl ⟨by rw [emp_of, decide_eq_true_eq]; exact hz, rfl, rfl, rfl⟩⟩
  · have ne : s.toList.isEmpty = false := by rw [emp_of, decide_eq_false_iff_not]; exact hz
    have g0 : 0 < s.size := by omega
    have hh : s.data.toList = s[0] :: s.data.toList.drop 1 := by
      rw [← List.drop_zero (l := s.data.toList), List.drop_eq_getElem_cons (by omega)]; rfl
    have hs1 : (s.extract 1 s.size).data.toList = s.data.toList.drop 1 := by rw [Lib.extract_data, List.take_of_length_le (by simp)]
    have hsz : (s.extract 1 s.size).size ≤ s.size := by rw [← size_len, hs1]; simp
    rcases sign_cases s[0] with ⟨h, e⟩ | ⟨h, e⟩ | ⟨h, e⟩ | ⟨h1, h2, h3, e⟩
    · exact ⟨true, _, 16, by rw [hs1, hh]; simp [Dig.signed, e], hsz, .inr (.inr (.inl ⟨g0, ne, by rw [beq_eq_false_iff_ne]; omega, by rw [beq_iff_eq]; omega, rfl, rfl, rfl⟩))⟩
    · exact ⟨true, _, 10, by rw [hs1, hh]; simp [Dig.signed, e], hsz, .inr (.inl ⟨g0, ne, by rw [beq_iff_eq]; omega, rfl, rfl, rfl⟩)⟩
    · exact ⟨true, _, 2, by rw [hs1, hh]; simp [Dig.signed, e], hsz, .inr (.inr (.inr (.inl ⟨g0, ne, by rw [beq_eq_false_iff_ne]; omega, by rw [beq_eq_false_iff_ne]; omega, by rw [beq_iff_eq]; omega, rfl, rfl, rfl⟩)))⟩
    · exact ⟨false, s, b, by rw [hh]; simp [Dig.signed, e], Nat.le_refl _, .inr (.inr (.inr (.inr ⟨g0, ne, by rw [beq_eq_false_iff_ne]; omega, by rw [beq_eq_false_iff_ne]; omega, by rw [beq_eq_false_iff_ne]; omega, rfl, rfl, rfl⟩)))⟩
theorem minus_forms (s : ByteArray) : ∃ (nb : Bool) (m : ByteArray), Dig.minus s.data.toList = (m.data.toList, nb) ∧ m.size ≤ s.size ∧
    ((s.toList.isEmpty = true ∧ nb = false ∧ m = s)
    ∨ (∃ h : 0 < s.size, s.toList.isEmpty = false ∧ ((s[0].toNat : Int) == 45) = true ∧ nb = true ∧ m = s.extract 1 s.size)
    ∨ (∃ h : 0 < s.size, s.toList.isEmpty = false ∧ ((s[0].toNat : Int) == 45) = false ∧ nb = false ∧ m = s)) := by
  have hl := size_len s
  by_cases hz : s.size = 0
  · have hd : s.data.toList = [] := List.eq_nil_of_length_eq_zero (by omega)
    exact ⟨false, s, by rw [hd]; rfl, Nat.le_refl _, .inl ⟨by rw [emp_of, decide_eq_true_eq]; exact hz, rfl, rfl⟩⟩
  · have ne : s.toList.isEmpty = false := by rw [emp_of, decide_eq_false_iff_not]; exact hz
    have g0 : 0 < s.size := by omega
    have hh : s.data.toList = s[0] :: s.data.toList.drop 1 := by
      rw [← List.drop_zero (l := s.data.toList), List.drop_eq_getElem_cons (by omega)]; rfl
    have hs1 : (s.extract 1 s.size).data.toList = s.data.toList.drop 1 := by rw [Lib.extract_data, List.take_of_length_le (by simp)]
    have hsz : (s.extract 1 s.size).size ≤ s.size := by rw [← size_len, hs1]; simp
    by_cases h : s[0] = 45
    · exact ⟨true, _, by rw [hs1, hh]; simp [Dig.minus, h], hsz, .inr (.inl ⟨g0, ne, by rw [h]; rfl, rfl, rfl⟩)⟩
    · exact ⟨false, s, by rw [hh]; simp [Dig.minus, h], Nat.le_refl _, .inr (.inr ⟨g0, ne, by rw [beq_eq_false_iff_ne]; intro e; exact h (UInt8.toNat_inj.1 (by have : (45 : UInt8).toNat = 45 := rfl; omega)), rfl, rfl⟩)⟩
set_option maxHeartbeats 1000000 in
theorem refGet_wrong (s : ByteArray) (b : Int) (hb : Dig.rightB b = false) (w : World) :
    Calls Tryd.prog 9 #[.string s, .int .i64 b] w fun e w' => e = Num (Dig.getV s.data.toList b) ∧ w = w' := by
  have e : Dig.getV s.data.toList b = (0, false) := by unfold Dig.getV; rw [if_neg (by rw [hb]; exact Bool.false_ne_true)]
  rw [e]
  simp only [Dig.rightB, Bool.and_eq_false_iff, decide_eq_false_iff_not] at hb
  by_cases h0 : b < 2
  · clear hb e
    go_enter Tryd.func9, Tryd.ntmps9
    go_wp2
    go_ret2
    exact ⟨rfl, rfl⟩
  · have h1 : 36 < b := by omega
    clear hb e
    go_enter Tryd.func9, Tryd.ntmps9
    go_wp2
    go_ret2
    exact ⟨rfl, rfl⟩
set_option maxHeartbeats 2000000 in
theorem refGet_quoted (s : ByteArray) (b : Int) (hb : Dig.rightB b = true) (h0 : 2 < s.size) (h3 : ((s.size : Int) == 3) = true) (ha : (((s[0]'(by omega)).toNat : Int) == 39) = true) (hc : (((s[2]'(by omega)).toNat : Int) == 39) = true)
    (hq : Dig.quoted s.data.toList = some (s[1]'(by omega))) (w : World) :
    Calls Tryd.prog 9 #[.string s, .int .i64 b] w fun e w' => e = Num (Dig.getV s.data.toList b) ∧ w = w' := by
  have e : Dig.getV s.data.toList b = (((s[1]'(by omega)).toNat : Int), true) := by unfold Dig.getV; rw [if_pos hb, hq]
  rw [e]
  have g0 : 0 < s.size := by omega
  have g1 : 1 < s.size := by omega
  simp only [Dig.rightB, Bool.and_eq_true, decide_eq_true_eq] at hb
  obtain ⟨b0, b1⟩ := hb
  clear e hq
  go_enter Tryd.func9, Tryd.ntmps9
  go_wp2
  go_ret2
  exact ⟨num_byte _, rfl⟩
set_option maxHeartbeats 8000000 in
set_option maxRecDepth 100000 in
theorem refGet_rest (s : ByteArray) (b : Int) (hb : Dig.rightB b = true) (hs : s.size ≤ maxLen) (hq : Dig.quoted s.data.toList = none)
    (hw : ((s.size : Int) == 3) = false ∨ (∃ h0 : 2 < s.size, ((s.size : Int) == 3) = true ∧ (((s[0]'(by omega)).toNat : Int) == 39) = false) ∨ (∃ h0 : 2 < s.size, ((s.size : Int) == 3) = true ∧ (((s[0]'(by omega)).toNat : Int) == 39) = true ∧ (((s[2]'(by omega)).toNat : Int) == 39) = false)) (w : World) :
    Calls Tryd.prog 9 #[.string s, .int .i64 b] w fun e w' => e = Num (Dig.getV s.data.toList b) ∧ w = w' := by
  have e : Dig.getV s.data.toList b = Dig.withSign (Dig.minus (Dig.signed s.data.toList b).1).2 (Dig.numV (Dig.minus (Dig.signed s.data.toList b).1).1 (Dig.signed s.data.toList b).2) := by unfold Dig.getV; rw [if_pos hb, hq]
  rw [e]
  simp only [Dig.rightB, Bool.and_eq_true, decide_eq_true_eq] at hb
  obtain ⟨b0, b1⟩ := hb
  obtain ⟨sg, s1, bs, e1, hz1, HS0⟩ := sign_forms s b
  obtain ⟨nb, m, e2, hz2, HM0⟩ := minus_forms s1
  rw [e1]
  simp only
  rw [e2]
  simp only
  have hbs : 2 ≤ bs ∧ bs ≤ 36 := by rcases HS0 with ⟨_, _, _, h⟩ | ⟨_, _, _, _, _, h⟩ | ⟨_, _, _, _, _, _, h⟩ | ⟨_, _, _, _, _, _, _, h⟩ | ⟨_, _, _, _, _, _, _, h⟩ <;> omega
  obtain ⟨r0, r1⟩ := hbs
  have hm : m.size ≤ 9223372036854775807 := by unfold maxLen at hs; omega
  have HQ := Lib.hid hw
  have HS := Lib.hid HS0
  have HM := Lib.hid HM0
  clear e e1 e2 hz1 hz2 HS0 HM0 hw hq
  go_enter Tryd.func9, Tryd.ntmps9
  go_upto_region 3 with fail
  go_cut [28] (fun t wx => t = .bool false ∧ w = wx)
  case first =>
    rcases HQ.out with h1 | ⟨k0, h1, h2⟩ | ⟨k0, h1, h2, h3⟩
    all_goals (go_wp2_with fail; go_meet; exact ⟨rfl, rfl⟩)
  case rest =>
    obtain ⟨rfl, rfl⟩ := hcut
    go_upto_region 5 with fail
    go_cut [48] (fun t wx => t = .bool sg ∧ w = wx)
    case first =>
      rcases HS.out with ⟨h1, rfl, rfl, rfl⟩ | ⟨h0, h1, h2, rfl, rfl, rfl⟩ | ⟨h0, h1, h2, h3, rfl, rfl, rfl⟩ | ⟨h0, h1, h2, h3, h4, rfl, rfl, rfl⟩ | ⟨h0, h1, h2, h3, h4, rfl, rfl, rfl⟩
      all_goals (go_wp2_with fail; go_meet; exact ⟨rfl, rfl⟩)
    case rest =>
      obtain ⟨rfl, rfl⟩ := hcut
      go_upto_if 48 with fail
      go_cut [0, 1] (fun t u wx => t = .string s1 ∧ u = .int .i64 bs ∧ w = wx)
      case first =>
        rcases HS.out with ⟨h1, rfl, rfl, rfl⟩ | ⟨h0, h1, h2, rfl, rfl, rfl⟩ | ⟨h0, h1, h2, h3, rfl, rfl, rfl⟩ | ⟨h0, h1, h2, h3, h4, rfl, rfl, rfl⟩ | ⟨h0, h1, h2, h3, h4, rfl, rfl, rfl⟩
        all_goals (go_wp2_with fail; go_meet; exact ⟨rfl, rfl, rfl⟩)
      case rest =>
        obtain ⟨rfl, rfl, rfl⟩ := hcut
        go_upto_region 13 with fail
        go_cut [6] (fun t wx => t = .bool nb ∧ w = wx)
        case first =>
          rcases HM.out with ⟨h1, rfl, rfl⟩ | ⟨h0, h1, h2, rfl, rfl⟩ | ⟨h0, h1, h2, rfl, rfl⟩
          all_goals (go_wp2_with fail; go_meet; exact ⟨rfl, rfl⟩)
        case rest =>
          obtain ⟨rfl, rfl⟩ := hcut
          go_upto_if 64 with fail
          go_cut [0] (fun t wx => t = .string m ∧ w = wx)
          case first =>
            rcases HM.out with ⟨h1, rfl, rfl⟩ | ⟨h0, h1, h2, rfl, rfl⟩ | ⟨h0, h1, h2, rfl, rfl⟩
            all_goals (go_wp2_with fail; go_meet; exact ⟨rfl, rfl⟩)
          case rest =>
            obtain ⟨rfl, rfl⟩ := hcut
            have ne := emp_of m
            have HZ := Lib.hid (size_len m)
            by_cases he : m.size = 0
            · have h1 : m.toList.isEmpty = true := by rw [ne, decide_eq_true_eq]; exact he
              have e : Dig.numV m.data.toList bs = none := by unfold Dig.numV; rw [if_pos (.inl (List.eq_nil_of_length_eq_zero (HZ.out.trans he)))]
              have HE := Lib.hid e
              clear e ne he
              go_wp2
              go_ret2
              exact ⟨by rw [HE.out]; rfl, rfl⟩
            · have h1 : m.toList.isEmpty = false := by rw [ne, decide_eq_false_iff_not]; exact he
              have hne : ¬ m.data.toList = [] := fun h => he (by rw [← size_len, h]; rfl)
              clear ne he
              by_cases hl : 70 < m.size
              · have e : Dig.numV m.data.toList bs = none := by unfold Dig.numV; rw [if_pos (.inr (by rw [HZ.out]; exact hl))]
                have HE := Lib.hid e
                have hl' : (70 : Int) < (m.size : Int) := by omega
                clear e hne
                go_wp2
                go_ret2
                exact ⟨by rw [HE.out]; rfl, rfl⟩
              · have e : Dig.numV m.data.toList bs = Dig.numL bs 0 m.data.toList := by unfold Dig.numV; rw [if_neg (by rintro (h | h); exact hne h; rw [HZ.out] at h; omega)]
                have HE := Lib.hid e
                have hl' : ¬ (70 : Int) < (m.size : Int) := by omega
                clear e hne
                go_wp2
                go_loop [7, 8] (fun v i => ∃ (k : Nat) (a : Int), k ≤ m.size ∧ i = .int .i64 k ∧ v = .int .i64 a ∧ Hid (Dig.numL bs 0 m.data.toList = Dig.numL bs a (m.data.toList.drop k))) (fun _ i => m.size - (intOf i).toNat)
                case atStart => exact ⟨0, 0, Nat.zero_le _, rfl, rfl, rfl⟩
                case round =>
                  obtain ⟨k, a, hk, rfl, rfl, HR⟩ := hrel
                  by_cases hlt : k < m.size
                  · have hst : Dig.numL bs a (m.data.toList.drop k) = if bs ≤ Dig.dig m[k] then none else Dig.numL bs (wrap64 (wrap64 (a * bs) + Dig.dig m[k])) (m.data.toList.drop (k + 1)) := by
                      rw [drop_get _ _ (by rw [HZ.out]; exact hlt)]
                      rfl
                    have HT := Lib.hid hst
                    clear hst
                    generalize hc : m[k] = c at *
                    have hd := digR_le c r1
                    by_cases hb : bs ≤ Dig.dig c
                    · have hb' : bs ≤ digR c := hd.2 hb
                      have HB := Lib.hid hb
                      clear hd hb
                      go_wp2_with (go_at_call 16; refine (refDigit_any _ _).mono ?_; rintro e w' ⟨rfl, rfl⟩)
                      go_ret2
                      exact ⟨by rw [HE.out, HR.out, HT.out, if_pos HB.out]; rfl, rfl⟩
                    · have hb' : digR c < bs := by have := mt hd.1 hb; omega
                      have HB := Lib.hid (digR_of c r1 hb)
                      have HN := Lib.hid hb
                      clear hd hb
                      go_wp2_with (go_at_call 16; refine (refDigit_any _ _).mono ?_; rintro e w' ⟨rfl, rfl⟩)
                      go_round
                      case rel => exact ⟨k + 1, _, by omega, by go_num, rfl, by rw [Hid, HR.out, HT.out, if_neg (by have := HN.out; omega), HB.out]⟩
                      case measure => simp [intOf]; omega
                  · obtain rfl : k = m.size := by omega
                    have he : Dig.numL bs a (m.data.toList.drop m.size) = some a := by rw [List.drop_of_length_le (by rw [HZ.out]; omega)]; rfl
                    have HF := Lib.hid he
                    clear he
                    cases nb
                    all_goals
                      go_wp2
                      go_ret2
                      exact ⟨by rw [HE.out, HR.out, HF.out]; rfl, rfl⟩
theorem refGet_any (s : ByteArray) (b : Int) (hs : s.size ≤ maxLen) (w : World) :
    Calls Tryd.prog 9 #[.string s, .int .i64 b] w fun e w' => e = Num (Dig.getV s.data.toList b) ∧ w = w' := by
  cases hb : Dig.rightB b with
  | false => exact refGet_wrong s b hb w
  | true =>
    rcases quoted_cases s with ⟨h1, hq⟩ | ⟨h0, h1, h2, hq⟩ | ⟨h0, h1, h2, h3, hq⟩ | ⟨h0, h1, h2, h3, hq⟩
    · exact refGet_rest s b hb hs hq (.inl h1) w
    · exact refGet_rest s b hb hs hq (.inr (.inl ⟨h0, h1, h2⟩)) w
    · exact refGet_rest s b hb hs hq (.inr (.inr ⟨h0, h1, h2, h3⟩)) w
    · exact refGet_quoted s b hb h0 h1 h2 h3 hq w
end Go.Proofs.YtoajkbdadcepaaaDoor
