/- PilePlays: the walk at every input. -/
import Derived.Test.YtpklbffphdfpdaaPilePlaysW
namespace Go.Proofs.Ytpklbffphdfpdaa.PilePlays
open Go.RowKit Book Mem
set_option linter.unusedSimpArgs false
set_option linter.unusedVariables false
set_option maxHeartbeats 2000000 in
set_option maxRecDepth 100000 in
theorem early (most : Int) (lo : Option Addr) (L lc : Nat) (oo : Option Addr) (N oc : Nat) (ask : Int) (W : World) (h : 60 < L ∨ 80 < N) :
    Calls Try.prog 3 #[.int .i64 most, .slice lo L lc, .slice oo N oc, .int .i64 ask] W (Yes W) := by
  have C := Lib.hid (alive_any W)
  by_cases h1 : 60 < L
  · have e1 : decide (60 < (L : Int)) = true := decide_eq_true (by omega)
    clear h h1
    go_enter Try.func3, Try.ntmps3
    go_wp2_with fail
    refine C.out.mono ?_
    rintro e w1 ⟨rfl, hb⟩
    have HB := Lib.hid hb
    clear hb C
    go_wp2
    go_ret
    exact ⟨rfl, HB.out⟩
  · have e1 : decide (60 < (L : Int)) = false := decide_eq_false (by omega)
    have e2 : decide (80 < (N : Int)) = true := decide_eq_true (by omega)
    clear h h1
    go_enter Try.func3, Try.ntmps3
    go_wp2_with fail
    refine C.out.mono ?_
    rintro e w1 ⟨rfl, hb⟩
    have HB := Lib.hid hb
    clear hb C
    go_wp2
    go_ret
    exact ⟨rfl, HB.out⟩
theorem walk (most : Int) (v : Value) (f : List Int) (vo : Value) (ops : List OpIn) (ask : Int) (W : World) (w0 : (Lit.int .i64 most).wf = true) (hl : (Reads W v f ∧ ∃ ao cap, v = .slice ao f.length cap ∧ f.length ≤ cap) ∧ ∀ x ∈ f, (Lit.int .i64 x).wf = true) (ho : OpsAt W vo ops) (wa : (Lit.int .i64 ask).wf = true) :
    Calls Try.prog 3 #[.int .i64 most, v, vo, .int .i64 ask] W (Yes W) := by
  by_cases h : 60 < f.length ∨ 80 < ops.length
  · obtain ⟨⟨_, lo, lc, rfl, _⟩, _⟩ := hl
    obtain ⟨oo, oc, rfl, _⟩ := ho
    exact early most _ _ _ _ _ _ ask W h
  · exact main most v f vo ops ask W hl.1 ho (by omega) (by omega)
end Go.Proofs.Ytpklbffphdfpdaa.PilePlays
