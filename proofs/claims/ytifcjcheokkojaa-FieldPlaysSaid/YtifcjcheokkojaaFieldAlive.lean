/- The statements' first call. -/
import Derived.Test.YtifcjcheokkojaaFieldStore
namespace Go.Proofs.Ytifcjcheokkojaa
open Go.RowKit Book Mem
set_option linter.unusedSimpArgs false
set_option linter.unusedVariables false
/-- a call that says yes, and leaves what was there -/
def Yes (w : World) (e : Ending) (w' : World) : Prop := e = .returned (.bool true) ∧ Below w.heap.size w w'
set_option maxHeartbeats 2000000 in
theorem alive_any (w : World) : Calls Try.prog 6 #[] w (Yes w) := by
  have C := Lib.hid (show Calls Try.prog 9 #[.int .i64 4] w (Made w (List.replicate 4 0)) from new_any 4 4 (by decide) w)
  go_enter Try.func6, Try.ntmps6
  go_wp2_with fail
  refine C.out.mono ?_
  rintro e w1 ⟨p, vC, rfl, hF, hB⟩
  have HB := Lib.hid hB
  have hb1 := hB.size
  clear C hB
  have D := Lib.hid (show Calls Try.prog 10 #[.pointer (some ⟨p, 0, none⟩), .int .i64 2, .int .i64 7] w1 (Stored w1 w.heap.size p vC (.slice none 0 0) (List.replicate 4 0) [] 2 7) from store_yes hF hb1 2 7 (by simp))
  have HF0 := Lib.hid hF
  clear hF
  go_wp2_with fail
  refine D.out.mono ?_
  rintro e w2 ⟨vH, rfl, hF, hs, _⟩
  have HF := Lib.hid hF
  have HB2 := Lib.hid (HB.out.trans (hs.below (fun k hk => (HF0.out.foot_lt k hk).1) hb1))
  clear hF hs D HF0
  have D := Lib.hid (show Calls Try.prog 10 #[.pointer (some ⟨p, 0, none⟩), .int .i64 4, .int .i64 1] w2 _ from store_no HF.out 4 1 (by simp))
  go_wp2_with fail
  refine D.out.mono ?_
  rintro e wz ⟨rfl, hwz⟩
  subst wz
  clear D
  have D := Lib.hid (show Calls Try.prog 16 #[.pointer (some ⟨p, 0, none⟩), .int .i64 2] w2 _ from load_yes HF.out 2 7 (by simp))
  go_wp2_with fail
  refine D.out.mono ?_
  rintro e wz ⟨rfl, hwz⟩
  subst wz
  clear D
  have D := Lib.hid (changed_any HF.out)
  go_wp2_with fail
  refine D.out.mono ?_
  rintro e w3 ⟨c, rfl, hO, hB⟩
  have hch : chg [] ((2 : Nat) : Int) = [2] := by decide
  rw [hch] at hO
  obtain ⟨g, cap, e, hc, _, _⟩ := hO.row (by simp [vals])
  have k0 := hc 0 (.int .i64 2) (by simp [vals])
  rw [vals_length] at e
  simp only [List.length_cons, List.length_nil, Nat.zero_add] at e
  subst e
  have HB3 := Lib.hid (HB2.out.trans (hB.mono HB2.out.size))
  have E := Lib.hid (len_any (HF.out.below hB))
  simp only [List.length_set, List.length_replicate] at E
  clear hc hO hB hch D
  go_wp2_with fail
  refine E.out.mono ?_
  rintro e wz ⟨rfl, hwz⟩
  subst wz
  clear E
  go_wp2
  go_ret
  exact ⟨rfl, HB3.out⟩
end Go.Proofs.Ytifcjcheokkojaa
