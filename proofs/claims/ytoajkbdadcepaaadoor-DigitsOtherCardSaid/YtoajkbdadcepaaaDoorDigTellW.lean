/- The walk of hollowaylaw3.DigitsTell. -/
import Derived.Test.YtoajkbdadcepaaaDoorDigAlive
namespace Go.Proofs.YtoajkbdadcepaaaDoor
open Go.RowKit
set_option linter.unusedSimpArgs false
set_option linter.unusedVariables false
theorem right_ways (b : Int) : (2 ≤ b ∧ b ≤ 36 ∧ Dig.rightB b = true) ∨ (b < 2 ∧ Dig.rightB b = false) ∨ (2 ≤ b ∧ 36 < b ∧ Dig.rightB b = false) := by
  unfold Dig.rightB
  by_cases h0 : 2 ≤ b
  · by_cases h1 : b ≤ 36
    · exact .inl ⟨h0, h1, by simp [h0, h1]⟩
    · exact .inr (.inr ⟨h0, by omega, by simp [h1]⟩)
  · exact .inr (.inl ⟨by omega, by simp [h0]⟩)
set_option maxHeartbeats 4000000 in
theorem tell_walk (v b : Int) (s : ByteArray) (wv : (Lit.int .i64 v).wf = true) (wb : (Lit.int .i64 b).wf = true) (hs : s.size ≤ maxLen) (w : World) (hz : Zeros w) (ht : Tens w) :
    Calls Tryd.prog 3 #[.int .i64 v, .int .i64 b, .string s] w fun e w' => e = .returned (.bool true) ∧ Below w.heap.size w w' := by
  have A := Lib.hid (alive3 w hz ht)
  have HV := wf_range wv
  by_cases hl : 200 < s.size
  · have hl' : (200 : Int) < (s.size : Int) := by omega
    clear hz ht wv wb hs HV
    go_enter Tryd.func3, Tryd.ntmps3
    go_wp2_with fail
    refine A.out.mono ?_
    rintro e w1 ⟨rfl, hb⟩
    go_wp2
    go_ret
    exact ⟨rfl, hb⟩
  · have hl' : ¬ (200 : Int) < (s.size : Int) := by omega
    have hs' : s.size ≤ 9223372036854775807 := by omega
    have G1 := Lib.hid (get_any s b (by unfold maxLen; omega))
    have G2 := Lib.hid (refGet_any s b (by unfold maxLen; omega))
    have P1 := fun w1 (h1 : Zeros w1) (h2 : Tens w1) => Lib.hid (put_any v b HV.1 HV.2 w1 h1 h2)
    have P2 := Lib.hid (refPut_any v b HV.1 HV.2)
    have HZ := Lib.hid hz
    have HT := Lib.hid ht
    generalize Dig.getV s.data.toList b = o at *
    generalize putT v b = t at *
    clear hz ht wv wb HV hl hs
    rcases right_ways b with ⟨h0, h1, hb⟩ | ⟨h0, hb⟩ | ⟨h0, h1, hb⟩
    all_goals
      first | (have R := Lib.hid (right_yes b hb)) | (have R := Lib.hid (right_no b hb))
      clear hb
      go_enter Tryd.func3, Tryd.ntmps3
      go_wp2_with fail
      refine A.out.mono ?_
      rintro e w1 ⟨rfl, hb⟩
      have HB := Lib.hid hb
      clear hb
      go_wp2_with (first | (go_at_call 8; refine (G1.out _).mono ?_; rintro e w' ⟨rfl, rfl⟩) | (go_at_call 9; refine (G2.out _).mono ?_; rintro e w' ⟨rfl, rfl⟩))
      refine (P1 _ (HZ.out.mono HB.out) (HT.out.mono HB.out)).out.mono ?_
      rintro e w2 ⟨rfl, hb2⟩
      have HB2 := Lib.hid (HB.out.trans (hb2.mono HB.out.size))
      clear hb2
      go_wp2_with (first | (go_at_call 11; refine (P2.out _).mono ?_; rintro e w' ⟨rfl, rfl⟩) | (go_at_call 12; refine (R.out _).mono ?_; rintro e w' ⟨rfl, rfl⟩))
      go_ret
      exact ⟨by first | rfl | exact congrArg (fun x => Ending.returned (.bool x)) (by simp; omega), HB2.out⟩
end Go.Proofs.YtoajkbdadcepaaaDoor
