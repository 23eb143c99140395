/- FieldPlays: the walk at every input. -/
import Derived.Test.YtifcjcheokkojaaFieldPlaysW
namespace Go.Proofs.Ytifcjcheokkojaa.FieldPlays
open Go.RowKit Book Mem
set_option linter.unusedSimpArgs false
set_option linter.unusedVariables false
set_option maxHeartbeats 2000000 in
set_option maxRecDepth 100000 in
theorem walk (v : Value) (l : List Int) (n : Int) (vo : Value) (ops : List (Int × Int × Int)) (ask : Int) (W : World) (hl : Reads W v l ∧ ∀ x ∈ l, (Lit.int .i64 x).wf = true) (wn : (Lit.int .i64 n).wf = true) (ho : OpsAt W vo ops) (wa : (Lit.int .i64 ask).wf = true) :
    Calls Try.prog 3 #[v, .int .i64 n, vo, .int .i64 ask] W (Yes W) := by
  have hr := hl.1
  clear wn
  by_cases hc : l.length ≤ 200 ∧ ops.length ≤ 80 ∧ n ≤ 500
  · exact main v l n vo ops ask W hr ho hc.1 hc.2.1 hc.2.2 wa
  · obtain ⟨lo, lc, e, -⟩ := id hr
    subst e
    obtain ⟨oo, oc, e, -⟩ := id ho
    subst e
    obtain ⟨L, hL⟩ : ∃ L, l.length = L := ⟨_, rfl⟩
    obtain ⟨N, hN⟩ : ∃ N, ops.length = N := ⟨_, rfl⟩
    rw [hL, hN] at hc
    rw [hL, hN]
    clear hL hN
    by_cases c1 : 200 < L
    · have h1 : decide (200 < (L : Int)) = true := decide_eq_true (by omega)
      clear hc
      have C := Lib.hid (alive_any W)
      clear hl hr ho wa
      go_enter Try.func3, Try.ntmps3
      go_wp2_with fail
      refine C.out.mono ?_
      rintro e w1 ⟨rfl, hb⟩
      have HB := Lib.hid hb
      clear hb C
      go_wp2
      go_ret
      exact ⟨rfl, HB.out⟩
    · have h1 : decide (200 < (L : Int)) = false := decide_eq_false (by omega)
      by_cases c2 : 80 < N
      · have h2 : decide (80 < (N : Int)) = true := decide_eq_true (by omega)
        clear hc
        have C := Lib.hid (alive_any W)
        clear hl hr ho wa
        go_enter Try.func3, Try.ntmps3
        go_wp2_with fail
        refine C.out.mono ?_
        rintro e w1 ⟨rfl, hb⟩
        have HB := Lib.hid hb
        clear hb C
        go_wp2
        go_ret
        exact ⟨rfl, HB.out⟩
      · have h2 : decide (80 < (N : Int)) = false := decide_eq_false (by omega)
        have h3 : decide (500 < n) = true := decide_eq_true (by omega)
        clear hc
        have C := Lib.hid (alive_any W)
        clear hl hr ho wa
        go_enter Try.func3, Try.ntmps3
        go_wp2_with fail
        refine C.out.mono ?_
        rintro e w1 ⟨rfl, hb⟩
        have HB := Lib.hid hb
        clear hb C
        go_wp2
        go_ret
        exact ⟨rfl, HB.out⟩
end Go.Proofs.Ytifcjcheokkojaa.FieldPlays
