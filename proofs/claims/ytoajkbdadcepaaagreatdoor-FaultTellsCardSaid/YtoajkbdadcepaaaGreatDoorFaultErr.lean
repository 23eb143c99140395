/- The walks of package fault: errors' texts; a Builder of a call's own. -/
import Derived.Test.YtoajkbdadcepaaaGreatDoorFaultSay
import Derived.Test.YtoajkbdadcepaaaGreatDoorFaultCode
import Derived.Test.YtoajkbdadcepaaaGreatDoorBuilder
import Derived.Deep.RegionWith
import Derived.BigQuiet
import Derived.Deep.QuietTactic
namespace Go.Proofs.YtoajkbdadcepaaaGreatDoor
open Go.RowKit Go.Extern.Stop Go.Stop Go.Extern
set_option linter.unusedSimpArgs false
set_option linter.unusedVariables false
/- the text of a fault that has not been seen: code -4 at place 7 -/
theorem text_under (w : World) : Calls Tryz.prog 15 #[.int .i64 (-4)] w fun e w' => e = .returned (.string ⟨#[115, 116, 97, 99, 107, 32, 117, 110, 100, 101, 114, 102, 108, 111, 119]⟩) ∧ w' = w := by
  go_enter Tryz.func15, Tryz.ntmps15
  go_wp2
  go_ret
  exact ⟨rfl, rfl⟩
theorem itoa7 (w : World) : Calls Tryz.prog 21 #[.int .i64 7] w fun e w' => e = .returned (.string ⟨#[55]⟩) ∧ w' = w := by
  have e7 : Lib.decDigits 7 = [55] := by rw [Lib.decDigits, dif_pos (by decide)]; rfl
  have h := Tryz.strconv_Itoa_small 7 (by decide) w
  rw [e7] at h
  exact h
def under7 : ByteArray := ⟨#[115, 116, 97, 99, 107, 32, 117, 110, 100, 101, 114, 102, 108, 111, 119, 32, 97, 116, 32, 55]⟩
set_option maxHeartbeats 2000000 in
theorem faultError7 (w : World) :
    Calls Tryz.prog 99 #[.agg #[.int .i64 (-4), .int .i64 7]] w fun e w' => e = .returned (.string under7) ∧ Below w.heap.size w w' := by
  go_enter Tryz.func99, Tryz.ntmps99
  go_wp2
  go_quiet (first | (go_at_call 15; exact Calls.quiet_of_same (text_under _)) | (go_at_call 21; exact Calls.quiet_of_same (itoa7 _)))
  go_wp2
  go_ret
  exact ⟨congrArg (fun x => Ending.returned (.string x)) (by decide +kernel), ((Below.refl _ _).alloc (Nat.le_refl _) _).trans (below_drewN _ _ _)⟩
end Go.Proofs.YtoajkbdadcepaaaGreatDoor
