/- The statements' first call (chapter 6). -/
import Derived.Test.YtlhamfiflmlepaaDoorOpWalks
namespace Go.Proofs.YtlhamfiflmlepaaDoor
open Go.RowKit
set_option linter.unusedSimpArgs false
set_option linter.unusedVariables false
theorem dup_is : ofN ⟨#[100, 117, 112]⟩ = some 6 := ofN_of (k := 6) (by decide) ((alike_iff _ _).2 (by decide +kernel))
set_option maxHeartbeats 2000000 in
theorem alive6 (w : World) (hn : NamesIs w) : Calls Tryd.prog 6 #[] w (Says (.bool true) w) := by
  have HNM := Lib.hid hn
  clear hn
  have C := Lib.hid (opOf_any ⟨#[100, 117, 112]⟩ (by decide) w HNM.out)
  rw [show ofI ⟨#[100, 117, 112]⟩ = 6 by unfold ofI; rw [dup_is]; rfl, show ofB ⟨#[100, 117, 112]⟩ = true by unfold ofB; rw [dup_is]; rfl] at C
  go_enter Tryd.func6, Tryd.ntmps6
  go_wp2_with fail
  refine C.out.mono ?_
  rintro e w1 ⟨rfl, hb⟩
  have HB1 := Lib.hid hb
  clear hb C
  have C := Lib.hid (show Calls Tryd.prog 7 #[.int .i64 10] w1 (Says (.tuple #[.int .i64 3, .int .i64 0]) w1) from opTakes_any 10 w1)
  go_wp2_with fail
  refine C.out.mono ?_
  rintro e w2 ⟨rfl, hb⟩
  have HB2 := Lib.hid (HB1.out.trans (hb.mono HB1.out.size))
  clear hb C
  have C := Lib.hid (show Calls Tryd.prog 13 #[.int .i64 11] w2 (Says (.string ⟨#[43]⟩) w2) from opName_any 11 w2 (HNM.out.mono HB2.out))
  go_wp2_with fail
  refine C.out.mono ?_
  rintro e w3 ⟨rfl, hb⟩
  have HB3 := Lib.hid (HB2.out.trans (hb.mono HB2.out.size))
  clear hb C
  have C := Lib.hid (show Calls Tryd.prog 14 #[.int .i64 47] w3 (Says (.bool true) w3) from opRight_any 47 w3)
  go_wp2_with fail
  refine C.out.mono ?_
  rintro e w4 ⟨rfl, hb⟩
  have HB4 := Lib.hid (HB3.out.trans (hb.mono HB3.out.size))
  clear hb C
  have C := Lib.hid (show Calls Tryd.prog 14 #[.int .i64 48] w4 (Says (.bool false) w4) from opRight_any 48 w4)
  go_wp2_with fail
  refine C.out.mono ?_
  rintro e w5 ⟨rfl, hb⟩
  have HB5 := Lib.hid (HB4.out.trans (hb.mono HB4.out.size))
  clear hb C
  go_wp2
  go_ret
  exact ⟨rfl, HB5.out⟩
end Go.Proofs.YtlhamfiflmlepaaDoor
