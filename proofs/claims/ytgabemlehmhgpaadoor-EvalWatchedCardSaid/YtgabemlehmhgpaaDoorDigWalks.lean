
/- The walks of package digits: Right, digit, sign, number. -/
import Derived.Test.YtgabemlehmhgpaaDoorRows
import Derived.Test.YtgabemlehmhgpaaDoorDigPlain
import Derived.WalkKit
import Derived.WalkSpells
import Derived.WalkLawsBesides
import Derived.Lib.Hide
import Derived.Lib.Strings
import Derived.Test.YtgabemlehmhgpaaDoorShelf
namespace Go.Proofs.YtgabemlehmhgpaaDoor
open Go.RowKit
set_option linter.unusedSimpArgs false
set_option linter.unusedVariables false

theorem right_yes (b : Int) (h : Dig.rightB b = true) (w : World) :
    Calls Tryd.prog 41 #[.int .i64 b] w fun e w' => e = .returned (.bool true) ∧ w = w' := by
  simp only [Dig.rightB, Bool.and_eq_true, decide_eq_true_eq] at h
  obtain ⟨h0, h1⟩ := h
  go_enter Tryd.func41, Tryd.ntmps41
  go_wp2
  go_ret
  exact ⟨rfl, rfl⟩
theorem right_no (b : Int) (h : Dig.rightB b = false) (w : World) :
    Calls Tryd.prog 41 #[.int .i64 b] w fun e w' => e = .returned (.bool false) ∧ w = w' := by
  simp only [Dig.rightB, Bool.and_eq_false_iff, decide_eq_false_iff_not] at h
  by_cases h0 : 2 ≤ b
  · have h1 : decide (b ≤ 36) = false := by rw [decide_eq_false_iff_not]; rcases h with h | h <;> omega
    clear h
    go_enter Tryd.func41, Tryd.ntmps41
    go_wp2
    go_ret
    exact ⟨rfl, rfl⟩
  · have h1 : b < 2 := by omega
    clear h h0
    go_enter Tryd.func41, Tryd.ntmps41
    go_wp2
    go_ret
    exact ⟨rfl, rfl⟩
theorem dig_cases (c : UInt8) : (c.toNat : Int) < 48 ∧ Dig.dig c = 36 ∨ (48 ≤ (c.toNat : Int) ∧ (c.toNat : Int) ≤ 57 ∧ Dig.dig c = (c.toNat : Int) - 48) ∨ (57 < (c.toNat : Int) ∧ (c.toNat : Int) < 65 ∧ Dig.dig c = 36)
    ∨ (65 ≤ (c.toNat : Int) ∧ (c.toNat : Int) ≤ 90 ∧ Dig.dig c = (c.toNat : Int) - 55) ∨ (90 < (c.toNat : Int) ∧ (c.toNat : Int) < 97 ∧ Dig.dig c = 36) ∨ (97 ≤ (c.toNat : Int) ∧ (c.toNat : Int) ≤ 122 ∧ Dig.dig c = (c.toNat : Int) - 87) ∨ (122 < (c.toNat : Int) ∧ Dig.dig c = 36) := by
  unfold Dig.dig
  split
  · omega
  · split
    · omega
    · split <;> omega
theorem ret_int {k : IntKind} {a b : Int} (h : a = b) : Ending.returned (.int k a) = .returned (.int k b) := by rw [h]
theorem sign_cases (c : UInt8) : (c.toNat : Int) = 36 ∧ Dig.signV c = 16 ∨ (c.toNat : Int) = 35 ∧ Dig.signV c = 10 ∨ (c.toNat : Int) = 37 ∧ Dig.signV c = 2 ∨ (¬ (c.toNat : Int) = 36 ∧ ¬ (c.toNat : Int) = 35 ∧ ¬ (c.toNat : Int) = 37 ∧ Dig.signV c = 0) := by
  have e : ∀ k : UInt8, c = k ↔ (c.toNat : Int) = (k.toNat : Int) := fun k => ⟨fun h => by rw [h], fun h => UInt8.toNat_inj.1 (by omega)⟩
  unfold Dig.signV
  simp only [e]
  show _ ∧ (if (c.toNat : Int) = 36 then (16 : Int) else if (c.toNat : Int) = 35 then 10 else if (c.toNat : Int) = 37 then 2 else 0) = 16 ∨ _ ∧ (if (c.toNat : Int) = 36 then (16 : Int) else if (c.toNat : Int) = 35 then 10 else if (c.toNat : Int) = 37 then 2 else 0) = 10 ∨ _ ∧ (if (c.toNat : Int) = 36 then (16 : Int) else if (c.toNat : Int) = 35 then 10 else if (c.toNat : Int) = 37 then 2 else 0) = 2 ∨ (_ ∧ _ ∧ _ ∧ (if (c.toNat : Int) = 36 then (16 : Int) else if (c.toNat : Int) = 35 then 10 else if (c.toNat : Int) = 37 then 2 else 0) = 0)
  split
  · omega
  · split
    · omega
    · split <;> omega
/-- what a number, or none, is told as -/
abbrev Num (o : Int × Bool) : Ending := .returned (.tuple #[.int .i64 o.1, .bool o.2])
theorem drop_get (l : List UInt8) (k : Nat) (h : k < l.length) : l.drop k = l[k] :: l.drop (k + 1) := List.drop_eq_getElem_cons h
theorem minus_eq (l : List UInt8) : Dig.minus l = (Lib.trimPrefix l [45], Lib.hasPrefix l [45]) := by
  unfold Dig.minus Lib.trimPrefix Lib.hasPrefix
  cases l with
  | nil => rfl
  | cons c r =>
    by_cases h : c = 45
    · subst h; simp [List.isPrefixOf]
    · have h' : ((45 : UInt8) == c) = false := by simpa using fun e => h e.symm
      simp [List.isPrefixOf, h, h']
theorem minus_len (l : List UInt8) : (Dig.minus l).1.length ≤ l.length := by
  rw [minus_eq]; exact Lib.trimPrefix_le _ _
/-- what stands behind the apostrophes' test -/
def restV (l : List UInt8) (base : Int) : Int × Bool := Dig.withSign (Dig.minus (Dig.signed l base).1).2 (Dig.numV (Dig.minus (Dig.signed l base).1).1 (Dig.signed l base).2)
theorem signV_range (c : UInt8) (h : ¬ Dig.signV c = 0) : 2 ≤ Dig.signV c ∧ Dig.signV c ≤ 36 := by
  rcases sign_cases c with ⟨_, e⟩ | ⟨_, e⟩ | ⟨_, e⟩ | ⟨_, _, _, e⟩ <;> omega
end Go.Proofs.YtgabemlehmhgpaaDoor
