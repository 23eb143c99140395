/- The first call of hollowaylaw1's statements. -/
import Derived.Test.YtnmofkahfioooaaRef1Walks
namespace Go.Proofs.Ytnmofkahfioooaa.Cell
open Go.RowKit
set_option maxHeartbeats 400000 in
theorem alive_any (w : World) :
    Calls Try.prog 9 #[] w fun e w' => e = .returned (.bool true) ∧ ∃ n, w' = w.drewN n := by
  have c1 : ∀ w : World, Calls Try.prog 14 #[.int .i64 (-7), .int .i64 2] w fun e w' => e = .returned (.tuple #[.int .i64 (-4), .int .i64 1, .bool true]) ∧ ∃ n, w' = w.drewN n := fun w => by
    have h := floor_any (-7) 2 (by decide) (by unfold In; omega) w
    rwa [show fq (-7) 2 = -4 from by kernel_rfl, show fr (-7) 2 = 1 from by kernel_rfl] at h
  have c2 : ∀ w : World, Calls Try.prog 10 #[.int .i64 11, .int .i64 2, .int .i64 3] w (Tells (5, true) w) := fun w => by
    have h := two_any 11 2 3 (by unfold In; omega) w
    rwa [show two 11 2 3 = (5, true) from by kernel_rfl] at h
  have C1 := Lib.hid c1
  have C2 := Lib.hid c2
  clear c1 c2
  go_enter Try.func9, Try.ntmps9
  go_wp2_with (first | (go_at_call 14; refine (C1.out _).mono ?_; rintro e w' ⟨rfl, n1, rfl⟩) | (go_at_call 10; refine (C2.out _).mono ?_; rintro e w' ⟨rfl, n2, rfl⟩) | (go_at_call 18; refine (flag_any _ _).mono ?_; rintro e w' ⟨rfl, rfl⟩))
  go_ret
  exact ⟨rfl, _, rfl⟩
end Go.Proofs.Ytnmofkahfioooaa.Cell
