/- The walk of hollowaylaw3.DigitsBack. -/
import Derived.Test.YtoajkbdadcepaaaDoorDigTellW
namespace Go.Proofs.YtoajkbdadcepaaaDoor
open Go.RowKit
set_option linter.unusedSimpArgs false
set_option linter.unusedVariables false
theorem back_any (v b : Int) (hb : Dig.rightB b = true) (v0 : -9223372036854775808 ≤ v) (v1 : v ≤ 9223372036854775807) (w : World) :
    Calls Tryd.prog 8 #[txt (Dig.putV Dig.upD v b), .int .i64 b] w fun e w' => e = .returned (.tuple #[.int .i64 v, .bool true]) ∧ w = w' := by
  have hl := Dig.put_length Dig.upD v b (by simp only [Dig.rightB, Bool.and_eq_true, decide_eq_true_eq] at hb; omega) (Dig.abs_lt v0 v1)
  have h := get_any ⟨(Dig.putV Dig.upD v b).toArray⟩ b (by show (Dig.putV Dig.upD v b).toArray.size ≤ maxLen; simp; unfold maxLen; omega) w
  rw [text_data, Dig.back hb v0 v1] at h
  exact h
theorem back_sign (v b : Int) (c : UInt8) (n : Nat) (hc : Dig.signV c = n) (h39 : c ≠ 39) (n2 : 2 ≤ n) (n36 : n ≤ 36) (hb : Dig.rightB b = true) (v0 : -9223372036854775808 ≤ v) (v1 : v ≤ 9223372036854775807) (w : World) :
    Calls Tryd.prog 8 #[.string (⟨#[c]⟩ ++ ⟨(Dig.putV Dig.upD v n).toArray⟩), .int .i64 b] w fun e w' => e = .returned (.tuple #[.int .i64 v, .bool true]) ∧ w = w' := by
  have hl := Dig.put_length Dig.upD v n (by omega) (Dig.abs_lt v0 v1)
  have e : (⟨#[c]⟩ ++ ⟨(Dig.putV Dig.upD v n).toArray⟩ : ByteArray) = ⟨(c :: Dig.putV Dig.upD v n).toArray⟩ := txt_cons c _
  have h := get_any ⟨(c :: Dig.putV Dig.upD v n).toArray⟩ b (by show (c :: Dig.putV Dig.upD v n).toArray.size ≤ maxLen; simp; unfold maxLen; omega) w
  rw [text_data, Dig.back_signed hb hc h39 n2 n36 v0 v1] at h
  rw [e]
  exact h
theorem putT_of {v b : Int} (hb : Dig.rightB b = true) : putT v b = Dig.putV Dig.upD v b := by unfold putT; rw [if_pos hb]
set_option maxHeartbeats 4000000 in
theorem back_walk (v b : Int) (wv : (Lit.int .i64 v).wf = true) (wb : (Lit.int .i64 b).wf = true) (w : World) (hz : Zeros w) (ht : Tens w) :
    Calls Tryd.prog 4 #[.int .i64 v, .int .i64 b] w fun e w' => e = .returned (.bool true) ∧ Below w.heap.size w w' := by
  have A := Lib.hid (alive3 w hz ht)
  have HV := wf_range wv
  rcases right_ways b with ⟨h0, h1, hb⟩ | ⟨h0, hb⟩ | ⟨h0, h1, hb⟩
  · have P := fun (n : Int) w1 (h1 : Zeros w1) (h2 : Tens w1) => Lib.hid (put_any v n HV.1 HV.2 w1 h1 h2)
    have P0 := P b
    rw [putT_of hb] at P0
    have P1 := P 16
    rw [putT_of (by decide)] at P1
    have P2 := P 2
    rw [putT_of (by decide)] at P2
    have P3 := P 10
    rw [putT_of (by decide)] at P3
    have G0 := Lib.hid (back_any v b hb HV.1 HV.2)
    have G1 := Lib.hid (back_sign v b 36 16 (by decide) (by decide) (by decide) (by decide) hb HV.1 HV.2)
    have G2 := Lib.hid (back_sign v b 37 2 (by decide) (by decide) (by decide) (by decide) hb HV.1 HV.2)
    have G3 := Lib.hid (back_sign v b 35 10 (by decide) (by decide) (by decide) (by decide) hb HV.1 HV.2)
    have l1 := (Dig.put_length Dig.upD v 16 (by omega) (Dig.abs_lt HV.1 HV.2)).2
    have l2 := (Dig.put_length Dig.upD v 2 (by omega) (Dig.abs_lt HV.1 HV.2)).2
    have l3 := (Dig.put_length Dig.upD v 10 (by omega) (Dig.abs_lt HV.1 HV.2)).2
    have HZ := Lib.hid hz
    have HT := Lib.hid ht
    rw [show ((16 : Nat) : Int) = 16 from rfl] at G1
    rw [show ((2 : Nat) : Int) = 2 from rfl] at G2
    rw [show ((10 : Nat) : Int) = 10 from rfl] at G3
    generalize Dig.putV Dig.upD v 16 = t1 at *
    generalize Dig.putV Dig.upD v 2 = t2 at *
    generalize Dig.putV Dig.upD v 10 = t3 at *
    generalize Dig.putV Dig.upD v b = t0 at *
    have m1 : 1 + t1.length ≤ 9223372036854775807 := by omega
    have m2 : 1 + t2.length ≤ 9223372036854775807 := by omega
    have m3 : 1 + t3.length ≤ 9223372036854775807 := by omega
    clear hz ht wv wb HV hb P
    go_enter Tryd.func4, Tryd.ntmps4
    go_wp2_with fail
    refine A.out.mono ?_
    rintro e w1 ⟨rfl, hb1⟩
    have HB1 := Lib.hid hb1
    clear hb1
    go_wp2_with fail
    refine (P0 _ (HZ.out.mono HB1.out) (HT.out.mono HB1.out)).out.mono ?_
    rintro e w2 ⟨rfl, hb2⟩
    have HB2 := Lib.hid (HB1.out.trans (hb2.mono HB1.out.size))
    clear hb2
    go_wp2_with fail
    refine (G0.out _).mono ?_
    rintro e w3 ⟨rfl, rfl⟩
    go_wp2_with fail
    refine (P1 _ (HZ.out.mono HB2.out) (HT.out.mono HB2.out)).out.mono ?_
    rintro e w3 ⟨rfl, hb3⟩
    have HB3 := Lib.hid (HB2.out.trans (hb3.mono HB2.out.size))
    clear hb3
    go_wp2_with fail
    refine (G1.out _).mono ?_
    rintro e w4 ⟨rfl, rfl⟩
    go_wp2_with fail
    refine (P2 _ (HZ.out.mono HB3.out) (HT.out.mono HB3.out)).out.mono ?_
    rintro e w4 ⟨rfl, hb4⟩
    have HB4 := Lib.hid (HB3.out.trans (hb4.mono HB3.out.size))
    clear hb4
    go_wp2_with fail
    refine (G2.out _).mono ?_
    rintro e w5 ⟨rfl, rfl⟩
    go_wp2_with fail
    refine (P3 _ (HZ.out.mono HB4.out) (HT.out.mono HB4.out)).out.mono ?_
    rintro e w5 ⟨rfl, hb5⟩
    have HB5 := Lib.hid (HB4.out.trans (hb5.mono HB4.out.size))
    clear hb5
    go_wp2_with fail
    refine (G3.out _).mono ?_
    rintro e w6 ⟨rfl, rfl⟩
    go_wp2
    go_ret
    exact ⟨rfl, HB5.out⟩
  all_goals
    clear hz ht wv wb HV hb
    go_enter Tryd.func4, Tryd.ntmps4
    go_wp2_with fail
    refine A.out.mono ?_
    rintro e w1 ⟨rfl, hb⟩
    go_wp2
    go_ret
    exact ⟨rfl, hb⟩
end Go.Proofs.YtoajkbdadcepaaaDoor
