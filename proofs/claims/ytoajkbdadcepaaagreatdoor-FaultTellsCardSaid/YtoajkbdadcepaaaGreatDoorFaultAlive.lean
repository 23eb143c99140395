/- The first call of hollowaylaw2's statements. -/
import Derived.Test.YtoajkbdadcepaaaGreatDoorFaultTell
namespace Go.Proofs.YtoajkbdadcepaaaGreatDoor
open Go.RowKit Go.Extern.Stop Go.Stop Go.Extern
set_option linter.unusedSimpArgs false
set_option linter.unusedVariables false
def sqB : ByteArray := ⟨#[115, 113]⟩
theorem sqText : strV (chainText [sqB] under7.data.toList) = .string ⟨#[115, 113, 58, 32, 115, 116, 97, 99, 107, 32, 117, 110, 100, 101, 114, 102, 108, 111, 119, 32, 97, 116, 32, 55]⟩ := by kernel_rfl
set_option maxHeartbeats 4000000 in
set_option maxRecDepth 100000 in
theorem alive_any (w : World) (hg : ErrorType w) :
    Calls Tryz.prog 4 #[] w fun e w' => e = .returned (.bool true) ∧ Below w.heap.size w w' := by
  have mE := Tryz.methodErrorS
  have HG := Lib.hid hg
  clear hg
  have B0 : Below w.heap.size w (w.alloc (.cells #[.string sqB, faultV (-4) 7] 51)) := (Below.refl _ _).alloc (Nat.le_refl _) _
  have hch : Hid (Chain (w.alloc (.cells #[.string sqB, faultV (-4) 7] 51)) (-4) 7 [sqB] (seenV w.heap.size)) :=
    ⟨w.heap.size, faultV (-4) 7, rfl, by simp, by simp, by simp, rfl⟩
  have hz : (w.alloc (.cells #[.string sqB, faultV (-4) 7] 51)).heap.size = w.heap.size + 1 := by simp
  generalize hW : w.alloc (.cells #[.string sqB, faultV (-4) 7] 51) = W at *
  have HW := Lib.hid hW
  have HZ := Lib.hid hz
  clear hW hz
  go_enter Tryz.func4, Tryz.ntmps4
  go_wp2_with (go_at_call 5; refine (new_some (-4) 7 (by decide) _).mono ?_)
  rintro e w1 ⟨rfl, rfl⟩
  go_wp2_with (go_at_call 8; refine (wrap_some _ _ ⟨#[115, 113]⟩ _).mono ?_)
  rintro e w1 ⟨rfl, h1⟩
  obtain rfl : w1 = W := h1.trans HW.out
  clear h1
  have C := Lib.hid (code_any _ _ _ _ _ hch.out (HG.out.mono B0))
  go_wp2_with (go_at_call 9; refine C.out.mono ?_)
  rintro e w2 ⟨rfl, hb2⟩
  have B2 := B0.trans (hb2.mono B0.size)
  clear C
  have C := Lib.hid (where_any _ _ _ _ _ (hch.out.mono hb2) (HG.out.mono B2))
  go_wp2_with (go_at_call 10; refine C.out.mono ?_)
  rintro e w3 ⟨rfl, hb3⟩
  have B3 := B2.trans (hb3.mono B2.size)
  clear C
  have c3 := (hch.out.mono hb2).mono hb3
  have T7 : Tells (fun _ => True) (-4) 7 under7 := fun w _ => faultError7 w
  have c0 := seenError (fun _ => True) (-4) 7 under7 T7 sqB [] w.heap.size w3 (fun _ _ => trivial) c3 (by decide +kernel)
  rw [sqText] at c0
  have C := Lib.hid c0
  have C3 := Lib.hid c3
  clear c0 c3 T7
  go_wp2_with (go_at_call 101; refine C.out.mono ?_)
  rintro e w4 ⟨rfl, hb4⟩
  have B4 := B3.trans (hb4.mono B3.size)
  clear C
  have C := Lib.hid (is_some _ _ _ _ (-4) true _ (C3.out.mono hb4) (HG.out.mono B4) (by decide) (by decide))
  go_wp2_with (go_at_call 12; refine C.out.mono ?_)
  rintro e w5 ⟨rfl, hb5⟩
  have B5 := B4.trans (hb5.mono B4.size)
  go_wp2_with (go_at_call 5; refine (new_zero 5 _).mono ?_)
  rintro e w6 ⟨rfl, rfl⟩
  go_wp2
  go_ret
  exact ⟨rfl, B5⟩
end Go.Proofs.YtoajkbdadcepaaaGreatDoor
