/- The first call of hollowaylaw3's statements. -/
import Derived.Test.YtoajkbdadcepaaaDoorDigPut
import Derived.Test.YtoajkbdadcepaaaDoorDigRefGet
namespace Go.Proofs.YtoajkbdadcepaaaDoor
open Go.RowKit
set_option linter.unusedSimpArgs false
set_option linter.unusedVariables false
theorem get_first : Dig.getV [36, 45, 102, 70] 10 = (-255, true) := by decide +kernel
theorem put_first : putT (-255) 16 = [45, 70, 70] := by decide +kernel
set_option maxHeartbeats 2000000 in
theorem alive3 (w : World) (hz : Zeros w) (ht : Tens w) :
    Calls Tryd.prog 7 #[] w fun e w' => e = .returned (.bool true) ∧ Below w.heap.size w w' := by
  have G := Lib.hid (get_any ⟨#[36, 45, 102, 70]⟩ 10 (by decide))
  rw [show (⟨#[36, 45, 102, 70]⟩ : ByteArray).data.toList = [36, 45, 102, 70] from rfl, get_first] at G
  have P := Lib.hid (put_any (-255) 16 (by omega) (by omega) w hz ht)
  rw [put_first] at P
  have R1 := Lib.hid (right_yes 36 (by decide))
  have R2 := Lib.hid (right_no 1 (by decide))
  clear hz ht
  go_enter Tryd.func7, Tryd.ntmps7
  go_wp2_with (first | (go_at_call 8; refine (G.out _).mono ?_; rintro e w' ⟨rfl, rfl⟩))
  refine P.out.mono ?_
  rintro e w1 ⟨rfl, hb⟩
  go_wp2_with (first | (go_at_call 12; first | ((with_reducible refine (R1.out _).mono ?_); rintro e w' ⟨rfl, rfl⟩) | ((with_reducible refine (R2.out _).mono ?_); rintro e w' ⟨rfl, rfl⟩)))
  go_ret
  exact ⟨rfl, hb⟩
end Go.Proofs.YtoajkbdadcepaaaDoor
