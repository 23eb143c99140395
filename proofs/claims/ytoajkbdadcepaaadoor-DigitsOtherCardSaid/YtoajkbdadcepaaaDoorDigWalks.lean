/- The walks of package digits: Right, digit, sign, number. -/
import Derived.Test.YtoajkbdadcepaaaDoorRows
import Derived.Test.YtoajkbdadcepaaaDoorDigPlain
import Derived.WalkKit
import Derived.WalkSpells
import Derived.WalkLawsBesides
import Derived.Lib.Hide
import Derived.Lib.Strings
import Derived.Test.YtoajkbdadcepaaaDoorShelf
namespace Go.Proofs.YtoajkbdadcepaaaDoor
open Go.RowKit
set_option linter.unusedSimpArgs false
set_option linter.unusedVariables false

theorem right_yes (b : Int) (h : Dig.rightB b = true) (w : World) :
    Calls Tryd.prog 12 #[.int .i64 b] w fun e w' => e = .returned (.bool true) ∧ w = w' := by
  simp only [Dig.rightB, Bool.and_eq_true, decide_eq_true_eq] at h
  obtain ⟨h0, h1⟩ := h
  go_enter Tryd.func12, Tryd.ntmps12
  go_wp2
  go_ret
  exact ⟨rfl, rfl⟩
theorem right_no (b : Int) (h : Dig.rightB b = false) (w : World) :
    Calls Tryd.prog 12 #[.int .i64 b] w fun e w' => e = .returned (.bool false) ∧ w = w' := by
  simp only [Dig.rightB, Bool.and_eq_false_iff, decide_eq_false_iff_not] at h
  by_cases h0 : 2 ≤ b
  · have h1 : decide (b ≤ 36) = false := by rw [decide_eq_false_iff_not]; rcases h with h | h <;> omega
    clear h
    go_enter Tryd.func12, Tryd.ntmps12
    go_wp2
    go_ret
    exact ⟨rfl, rfl⟩
  · have h1 : b < 2 := by omega
    clear h h0
    go_enter Tryd.func12, Tryd.ntmps12
    go_wp2
    go_ret
    exact ⟨rfl, rfl⟩
theorem dig_cases (c : UInt8) : (c.toNat : Int) < 48 ∧ Dig.dig c = 36 ∨ (48 ≤ (c.toNat : Int) ∧ (c.toNat : Int) ≤ 57 ∧ Dig.dig c = (c.toNat : Int) - 48) ∨ (57 < (c.toNat : Int) ∧ (c.toNat : Int) < 65 ∧ Dig.dig c = 36)
    ∨ (65 ≤ (c.toNat : Int) ∧ (c.toNat : Int) ≤ 90 ∧ Dig.dig c = (c.toNat : Int) - 55) ∨ (90 < (c.toNat : Int) ∧ (c.toNat : Int) < 97 ∧ Dig.dig c = 36) ∨ (97 ≤ (c.toNat : Int) ∧ (c.toNat : Int) ≤ 122 ∧ Dig.dig c = (c.toNat : Int) - 87) ∨ (122 < (c.toNat : Int) ∧ Dig.dig c = 36) := by
  unfold Dig.dig
  split
  · omega
  · split
    · omega
    · split <;> omega
theorem ret_int {k : IntKind} {a b : Int} (h : a = b) : Ending.returned (.int k a) = .returned (.int k b) := by rw [h]
set_option maxHeartbeats 1000000 in
theorem digit_any (c : UInt8) (w : World) :
    Calls Tryd.prog 20 #[.int .u8 c.toNat] w fun e w' => e = .returned (.int .i64 (Dig.dig c)) ∧ w = w' := by
  have hc := c.toNat_lt
  rcases dig_cases c with ⟨h, e⟩ | ⟨h, h', e⟩ | ⟨h, h', e⟩ | ⟨h, h', e⟩ | ⟨h, h', e⟩ | ⟨h, h', e⟩ | ⟨h, e⟩
  all_goals
    rw [e]
    clear e
    generalize hn : (c.toNat : Int) = n at *
    have h0 : 0 ≤ n := by omega
    have h255 : n ≤ 255 := by omega
    clear hn hc
    go_enter Tryd.func20, Tryd.ntmps20
    go_wp2
    go_ret
    exact ⟨ret_int (by first | rfl | omega), rfl⟩
theorem sign_cases (c : UInt8) : (c.toNat : Int) = 36 ∧ Dig.signV c = 16 ∨ (c.toNat : Int) = 35 ∧ Dig.signV c = 10 ∨ (c.toNat : Int) = 37 ∧ Dig.signV c = 2 ∨ (¬ (c.toNat : Int) = 36 ∧ ¬ (c.toNat : Int) = 35 ∧ ¬ (c.toNat : Int) = 37 ∧ Dig.signV c = 0) := by
  have e : ∀ k : UInt8, c = k ↔ (c.toNat : Int) = (k.toNat : Int) := fun k => ⟨fun h => by rw [h], fun h => UInt8.toNat_inj.1 (by omega)⟩
  unfold Dig.signV
  simp only [e]
  show _ ∧ (if (c.toNat : Int) = 36 then (16 : Int) else if (c.toNat : Int) = 35 then 10 else if (c.toNat : Int) = 37 then 2 else 0) = 16 ∨ _ ∧ (if (c.toNat : Int) = 36 then (16 : Int) else if (c.toNat : Int) = 35 then 10 else if (c.toNat : Int) = 37 then 2 else 0) = 10 ∨ _ ∧ (if (c.toNat : Int) = 36 then (16 : Int) else if (c.toNat : Int) = 35 then 10 else if (c.toNat : Int) = 37 then 2 else 0) = 2 ∨ (_ ∧ _ ∧ _ ∧ (if (c.toNat : Int) = 36 then (16 : Int) else if (c.toNat : Int) = 35 then 10 else if (c.toNat : Int) = 37 then 2 else 0) = 0)
  split
  · omega
  · split
    · omega
    · split <;> omega
set_option maxHeartbeats 1000000 in
theorem sign_any (c : UInt8) (w : World) :
    Calls Tryd.prog 13 #[.int .u8 c.toNat] w fun e w' => e = .returned (.int .i64 (Dig.signV c)) ∧ w = w' := by
  rcases sign_cases c with ⟨h, e⟩ | ⟨h, e⟩ | ⟨h, e⟩ | ⟨h1, h2, h3, e⟩
  iterate 3
    · rw [e, h]
      clear e h
      go_enter Tryd.func13, Tryd.ntmps13
      go_wp2
      go_ret
      exact ⟨rfl, rfl⟩
  · rw [e]
    clear e
    generalize (c.toNat : Int) = n at *
    have g1 : (n == 36) = false := by simpa using h1
    have g2 : (n == 35) = false := by simpa using h2
    have g3 : (n == 37) = false := by simpa using h3
    clear h1 h2 h3
    go_enter Tryd.func13, Tryd.ntmps13
    go_wp2
    go_ret
    exact ⟨rfl, rfl⟩
/-- what a number, or none, is told as -/
abbrev Num (o : Int × Bool) : Ending := .returned (.tuple #[.int .i64 o.1, .bool o.2])
theorem drop_get (l : List UInt8) (k : Nat) (h : k < l.length) : l.drop k = l[k] :: l.drop (k + 1) := List.drop_eq_getElem_cons h
set_option maxHeartbeats 1000000 in
theorem number_any (s : ByteArray) (b : Int) (h0 : 2 ≤ b) (h1 : b ≤ 36) (hs : s.size ≤ maxLen) (w : World) :
    Calls Tryd.prog 15 #[.string s, .int .i64 b] w fun e w' => e = Num (Dig.withSign false (Dig.numV s.data.toList b)) ∧ w = w' := by
  unfold maxLen at hs
  have hsz : s.data.toList.length = s.size := Array.length_toList
  by_cases he : s.size = 0
  · obtain rfl : s = ⟨#[]⟩ := ByteArray.ext (Array.eq_empty_of_size_eq_zero he)
    clear hsz he hs
    go_enter Tryd.func15, Tryd.ntmps15
    go_wp2
    go_ret2
    exact ⟨rfl, rfl⟩
  · have hne : ¬ s.data.toList = [] := fun h => he (by rw [← hsz, h]; rfl)
    have hem : s.toList.isEmpty = false := by rw [Lib.toList_data]; simpa using hne
    by_cases hl : 70 < s.size
    · have e : Dig.numV s.data.toList b = none := by unfold Dig.numV; rw [if_pos (.inr (by omega))]
      rw [e]
      have hl' : (70 : Int) < (s.size : Int) := by omega
      clear e hsz hne he
      go_enter Tryd.func15, Tryd.ntmps15
      go_wp2
      go_ret2
      exact ⟨rfl, rfl⟩
    · have e : Dig.numV s.data.toList b = Dig.numL b 0 s.data.toList := by unfold Dig.numV; rw [if_neg (by rintro (h | h); exact hne h; omega)]
      rw [e]
      have hl' : ¬ (70 : Int) < (s.size : Int) := by omega
      have HZ := Lib.hid hsz
      clear e hne he hsz
      go_enter Tryd.func15, Tryd.ntmps15
      go_wp2
      go_loop [6, 18] (fun v i => ∃ (k : Nat) (a : Int), k ≤ s.size ∧ i = .int .i64 k ∧ v = .int .i64 a ∧ Hid (Dig.numL b 0 s.data.toList = Dig.numL b a (s.data.toList.drop k))) (fun _ i => s.size - (intOf i).toNat)
      case atStart => exact ⟨0, 0, Nat.zero_le _, rfl, rfl, rfl⟩
      case round =>
        obtain ⟨k, a, hk, rfl, rfl, HR⟩ := hrel
        by_cases hlt : k < s.size
        · have hst : Dig.numL b a (s.data.toList.drop k) = if b ≤ Dig.dig s[k] then none else Dig.numL b (wrap64 (wrap64 (a * b) + Dig.dig s[k])) (s.data.toList.drop (k + 1)) := by
            rw [drop_get _ _ (by rw [HZ.out]; exact hlt)]
            rfl
          have HS := Lib.hid hst
          clear hst
          generalize hc : s[k] = c at *
          by_cases hb : b ≤ Dig.dig c
          · go_wp2_with (go_at_call 20; refine (digit_any _ _).mono ?_; rintro e w' ⟨rfl, rfl⟩)
            go_ret2
            exact ⟨by rw [HR.out, HS.out, if_pos hb]; rfl, rfl⟩
          · have hb' : Dig.dig c < b := by omega
            go_wp2_with (go_at_call 20; refine (digit_any _ _).mono ?_; rintro e w' ⟨rfl, rfl⟩)
            go_round
            case rel => exact ⟨k + 1, _, by omega, by go_num, rfl, by rw [Hid, HR.out, HS.out, if_neg (by omega)]⟩
            case measure => simp [intOf]; omega
        · obtain rfl : k = s.size := by omega
          have he : Dig.numL b a (s.data.toList.drop s.size) = some a := by rw [List.drop_of_length_le (by rw [HZ.out]; omega)]; rfl
          have HE := Lib.hid he
          clear he
          go_wp2
          go_ret2
          exact ⟨by rw [HR.out, HE.out]; rfl, rfl⟩
theorem minus_eq (l : List UInt8) : Dig.minus l = (Lib.trimPrefix l [45], Lib.hasPrefix l [45]) := by
  unfold Dig.minus Lib.trimPrefix Lib.hasPrefix
  cases l with
  | nil => rfl
  | cons c r =>
    by_cases h : c = 45
    · subst h; simp [List.isPrefixOf]
    · have h' : ((45 : UInt8) == c) = false := by simpa using fun e => h e.symm
      simp [List.isPrefixOf, h, h']
theorem cut_any (s : ByteArray) (w : World) :
    Calls Tryd.prog 14 #[.string s, .string ⟨#[45]⟩] w fun e w' => e = .returned (.tuple #[.string ⟨(Dig.minus s.data.toList).1.toArray⟩, .bool (Dig.minus s.data.toList).2]) ∧ w = w' :=
  (Tryd.strings_CutPrefix s ⟨#[45]⟩ w).mono fun e w' ⟨h1, h2⟩ => ⟨by rw [h1, minus_eq], h2.symm⟩
theorem minus_len (l : List UInt8) : (Dig.minus l).1.length ≤ l.length := by
  rw [minus_eq]; exact Lib.trimPrefix_le _ _
/-- what stands behind the apostrophes' test -/
def restV (l : List UInt8) (base : Int) : Int × Bool := Dig.withSign (Dig.minus (Dig.signed l base).1).2 (Dig.numV (Dig.minus (Dig.signed l base).1).1 (Dig.signed l base).2)
theorem signV_range (c : UInt8) (h : ¬ Dig.signV c = 0) : 2 ≤ Dig.signV c ∧ Dig.signV c ≤ 36 := by
  rcases sign_cases c with ⟨_, e⟩ | ⟨_, e⟩ | ⟨_, e⟩ | ⟨_, _, _, e⟩ <;> omega
end Go.Proofs.YtoajkbdadcepaaaDoor
