
/- Package op: whether it is an operation, whether it has an operand (the texts of package op's own proof, by themselves). -/
import Derived.Test.YtcpdhfigaoaohaaDoorOpPlain
import Derived.WalkKit
import Derived.Lib.Hide
import Derived.Deep.LoopGhost
import Derived.Deep.QuietTactic
import Derived.BigQuiet
namespace Go.Proofs.YtcpdhfigaoaohaaDoor.Wv
open Go.RowKit
set_option linter.unusedSimpArgs false
set_option linter.unusedVariables false
theorem opRight_same (a : Int) (w : World) : Calls Tryd.prog 25 #[.int .i64 a] w fun e w' => e = .returned (.bool (opB a)) ∧ w' = w := by
  by_cases h0 : 0 ≤ a
  · have e0 : opB a = decide (a < 48) := by simp [opB, isOp, h0]
    rw [e0]
    clear e0
    go_enter Tryd.func25, Tryd.ntmps25
    go_wp2
    go_ret
    exact ⟨rfl, rfl⟩
  · have e0 : opB a = false := by simp [opB, isOp, h0]
    rw [e0]
    clear e0
    go_enter Tryd.func25, Tryd.ntmps25
    go_wp2
    go_ret
    exact ⟨rfl, rfl⟩
theorem opArg_same (a : Int) (w : World) : Calls Tryd.prog 26 #[.int .i64 a] w fun e w' => e = .returned (.bool (argI a)) ∧ w' = w := by
  by_cases h : isOp a
  · obtain ⟨k, hk, rfl⟩ := nat_of_op h
    rw [show argI (k : Int) = argOf k by unfold argI; rw [if_pos h]; rfl]
    clear h
    by_cases h2 : k = 2
    · subst h2; go_enter Tryd.func26, Tryd.ntmps26; go_wp2; go_ret; exact ⟨rfl, rfl⟩
    by_cases h3 : k = 3
    · subst h3; go_enter Tryd.func26, Tryd.ntmps26; go_wp2; go_ret; exact ⟨rfl, rfl⟩
    by_cases h4 : k = 4
    · subst h4; go_enter Tryd.func26, Tryd.ntmps26; go_wp2; go_ret; exact ⟨rfl, rfl⟩
    by_cases h37 : k = 37
    · subst h37; go_enter Tryd.func26, Tryd.ntmps26; go_wp2; go_ret; exact ⟨rfl, rfl⟩
    by_cases h38 : k = 38
    · subst h38; go_enter Tryd.func26, Tryd.ntmps26; go_wp2; go_ret; exact ⟨rfl, rfl⟩
    have e : argOf k = false := by unfold argOf; exact decide_eq_false (by omega)
    rw [e]
    have e2 : ((k : Int) == 2) = false := by simp; omega
    have e3 : ((k : Int) == 3) = false := by simp; omega
    have e4 : ((k : Int) == 4) = false := by simp; omega
    have e37 : ((k : Int) == 37) = false := by simp; omega
    have e38 : ((k : Int) == 38) = false := by simp; omega
    go_enter Tryd.func26, Tryd.ntmps26
    go_wp2
    go_ret
    exact ⟨rfl, rfl⟩
  · rw [show argI a = false by unfold argI; rw [if_neg h]]
    rcases (by omega : a < 0 ∨ 48 ≤ a) with h | h
    all_goals
      go_enter Tryd.func26, Tryd.ntmps26
      go_wp2
      go_ret
      exact ⟨rfl, rfl⟩
end Go.Proofs.YtcpdhfigaoaohaaDoor.Wv
