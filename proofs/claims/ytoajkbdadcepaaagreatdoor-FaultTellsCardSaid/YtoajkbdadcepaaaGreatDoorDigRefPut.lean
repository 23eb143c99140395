/- The walk of the document's own Put (hollowayref1: digits). -/
import Derived.Test.YtoajkbdadcepaaaGreatDoorRows
import Derived.Test.YtoajkbdadcepaaaGreatDoorDigPlain
import Derived.WalkKit
import Derived.WalkSpells
import Derived.WalkLawsBesides
import Derived.Lib.Hide
import Derived.Lib.Strings
import Derived.Deep.DeepCutAuto
import Derived.Deep.LoopGhost
namespace Go.Proofs.YtoajkbdadcepaaaGreatDoor
open Go.RowKit
set_option linter.unusedSimpArgs false
set_option linter.unusedVariables false

abbrev txt (l : List UInt8) : Value := .string ⟨l.toArray⟩
abbrev upText : ByteArray := ⟨#[48, 49, 50, 51, 52, 53, 54, 55, 56, 57, 65, 66, 67, 68, 69, 70, 71, 72, 73, 74, 75, 76, 77, 78, 79, 80, 81, 82, 83, 84, 85, 86, 87, 88, 89, 90]⟩
theorem up_piece_fin : ∀ k : Fin 36, (upText.data.toList.drop k.val).take 1 = [Dig.upD k.val] := by decide +kernel
theorem up_piece {k : Nat} (h : k < 36) : upText.extract k (k + 1) = ⟨[Dig.upD k].toArray⟩ := by
  rw [Lib.extract_eq, Nat.add_sub_cancel_left, up_piece_fin ⟨k, h⟩]
theorem txt_cons (c : UInt8) (l : List UInt8) : (⟨[c].toArray⟩ : ByteArray) ++ ⟨l.toArray⟩ = ⟨(c :: l).toArray⟩ := by
  apply ByteArray.ext; simp [ByteArray.data_append]
set_option maxHeartbeats 1000000 in
theorem refPut_wrong (v b : Int) (hb : Dig.rightB b = false) (w : World) :
    Calls Tryz.prog 7 #[.int .i64 v, .int .i64 b] w fun e w' => e = .returned (txt []) ∧ w = w' := by
  simp only [Dig.rightB, Bool.and_eq_false_iff, decide_eq_false_iff_not] at hb
  by_cases h0 : b < 2
  · clear hb
    go_enter Tryz.func7, Tryz.ntmps7
    go_wp2
    go_ret
    exact ⟨rfl, rfl⟩
  · have h1 : 36 < b := by omega
    clear hb
    go_enter Tryz.func7, Tryz.ntmps7
    go_wp2
    go_ret
    exact ⟨rfl, rfl⟩
def PutRel (b U j : Nat) (u s : Value) : Prop := j ≤ Dig.nd b U ∧ (j ≤ 1 ∨ b ^ (j - 1) ≤ U) ∧ u = .int .u64 (U / b ^ j : Nat) ∧ s = txt (Dig.suf Dig.upD b U j)
theorem neg_u64 {U : Nat} (h : (U : Int) ≤ 9223372036854775808) : IntKind.u64.wrap (-IntKind.u64.wrap (-(U : Int))) = (U : Int) := by
  have e : ∀ x, IntKind.u64.wrap x = x % 18446744073709551616 := fun x => by simp [IntKind.wrap, IntKind.bits, IntKind.signed]
  rw [e, e]; omega
theorem pos_u64 {U : Nat} (h : (U : Int) ≤ 9223372036854775807) : IntKind.u64.wrap (U : Int) = (U : Int) := by
  have e : ∀ x, IntKind.u64.wrap x = x % 18446744073709551616 := fun x => by simp [IntKind.wrap, IntKind.bits, IntKind.signed]
  rw [e]; omega
theorem put_start (b U : Nat) (x : Int) (h : x = U) : PutRel b U 0 (.int .u64 x) (.string ⟨#[]⟩) :=
  ⟨Nat.zero_le _, .inl (Nat.zero_le _), by rw [h, Nat.pow_zero, Nat.div_one], rfl⟩
theorem put_next {b U j q : Nat} {l : List UInt8} (hf : Dig.Fits b U (Dig.nd b U)) (h2 : 2 ≤ b) (hq : U / b ^ j = q) (hl : Dig.suf Dig.upD b U j = l) (hgo : 0 < q ∨ j = 0) :
    j < Dig.nd b U ∧ PutRel b U (j + 1) (.int .u64 (q / b : Nat)) (txt (Dig.upD (q % b) :: l)) := by
  have hb : 0 < b ^ j := Nat.pow_pos (by omega)
  have hlt : j < Dig.nd b U := by
    rcases hgo with h | h
    · rcases Nat.lt_or_ge j (Dig.nd b U) with h3 | h3
      · exact h3
      · have h4 : b ^ Dig.nd b U ≤ b ^ j := Nat.pow_le_pow_right (by omega) h3
        have : U / b ^ j = 0 := Nat.div_eq_of_lt (Nat.lt_of_lt_of_le hf.2.1 h4)
        omega
    · have := hf.1; omega
  refine ⟨hlt, hlt, ?_, ?_, ?_⟩
  · rcases hgo with h | h
    · right
      rw [Nat.add_sub_cancel]
      rw [← hq] at h
      exact (Nat.div_pos_iff.1 h).2
    · left; omega
  · rw [← hq, Nat.div_div_eq_div_mul, ← Nat.pow_succ]
  · rw [Dig.suf, hq, hl]
theorem put_end {b U j : Nat} (hu : U < 18446744073709551616) (h2 : 2 ≤ b) (hj : 1 ≤ j) (hq : U / b ^ j = 0) (hlow : j ≤ 1 ∨ b ^ (j - 1) ≤ U) : Dig.suf Dig.upD b U j = Dig.digs Dig.upD b U := by
  unfold Dig.digs
  rw [Dig.nd_eq h2 hu ⟨hj, ?_, ?_⟩]
  · rcases Nat.lt_or_ge U (b ^ j) with h | h
    · exact h
    · have := Nat.div_pos h (Nat.pow_pos (by omega)); omega
  · rcases hlow with h | h
    · left; omega
    · right; exact h
theorem mod_int (q b : Nat) : ((q : Int) % (b : Int)) = ((q % b : Nat) : Int) := by omega
theorem div_int (q b : Nat) : ((q : Int) / (b : Int)) = ((q / b : Nat) : Int) := by omega
set_option maxHeartbeats 4000000 in
set_option maxRecDepth 100000 in
theorem refPut_right (v : Int) (b : Nat) (h2 : 2 ≤ b) (h36 : b ≤ 36) (v0 : -9223372036854775808 ≤ v) (v1 : v ≤ 9223372036854775807) (w : World) :
    Calls Tryz.prog 7 #[.int .i64 v, .int .i64 b] w fun e w' => e = .returned (txt (Dig.putV Dig.upD v b)) ∧ w = w' := by
  have hf := Dig.nd_fits (b := b) (u := v.natAbs) h2 (Dig.abs_lt v0 v1)
  have hul := Dig.abs_lt v0 v1
  by_cases hn : v < 0
  · obtain ⟨U, rfl⟩ : ∃ U : Nat, v = -(U : Int) := ⟨v.natAbs, by omega⟩
    have hU : (-(U : Int)).natAbs = U := by omega
    rw [hU] at hf hul
    have HP := Lib.hid (show Dig.putV Dig.upD (-(U : Int)) b = 45 :: Dig.digs Dig.upD b U from by unfold Dig.putV Dig.sgn; rw [if_pos hn, hU]; rfl)
    have HF := Lib.hid hf
    have HU := Lib.hid hul
    clear hf hU hul
    go_enter Tryz.func7, Tryz.ntmps7
    go_wp2
    go_loopg [5, 6] (Dig.nd b U) (fun k u s wr => ∃ j, k = Dig.nd b U - j ∧ Hid (PutRel b U j u s) ∧ w = wr)
    case atStart => exact ⟨0, by omega, put_start _ _ _ (neg_u64 (by omega)), rfl⟩
    case round =>
      obtain ⟨j, rfl, HR, rfl⟩ := hrel
      obtain ⟨hj, hlow, rfl, rfl⟩ := HR.out
      clear HR
      have HJ := Lib.hid hlow
      obtain ⟨q, hq⟩ : ∃ q, U / b ^ j = q := ⟨_, rfl⟩
      obtain ⟨l, hl⟩ : ∃ l, Dig.suf Dig.upD b U j = l := ⟨_, rfl⟩
      rw [hq, hl]
      have hqU : q ≤ U := by rw [← hq]; exact Nat.div_le_self _ _
      have hll : l.length ≤ 64 := by
        rw [← hl, Dig.suf_length]
        exact Nat.le_trans hj (Dig.nd_le h2 HU.out)
      have HQ := Lib.hid hq
      have HL := Lib.hid hl
      clear hq hl hlow
      by_cases hq0 : 0 < q
      · have r0 : 0 ≤ (q : Int) % (b : Int) := by omega
        have r1 : (q : Int) % (b : Int) < 36 := by have := Int.emod_lt_of_pos (q : Int) (show (0 : Int) < b by omega); omega
        have r2 : min (q % b + 1) 36 - q % b + l.length ≤ 9223372036854775807 := by omega
        have r3 : (q : Int) / (b : Int) ≤ 18446744073709551615 := by
          have h := HU.out
          rw [div_int]
          have := Nat.div_le_self q b
          omega
        have r4 : 0 ≤ (q : Int) / (b : Int) := Int.ediv_nonneg (by omega) (by omega)
        have hN := Lib.hid (put_next (b := b) (U := U) (j := j) HF.out h2 HQ.out HL.out (.inl hq0))
        have hup := Lib.hid (up_piece (k := q % b) (by have := Nat.mod_lt q (show b > 0 by omega); omega))
        go_wp2
        go_roundg (Dig.nd b U - (j + 1))
        case measure => have := hN.out.1; omega
        case rel => exact ⟨j + 1, rfl, by rw [div_int, hup.out, txt_cons]; exact hN.out.2, rfl⟩
      · obtain rfl : q = 0 := by omega
        by_cases hj0 : j = 0
        · subst hj0
          obtain rfl : [] = l := HL.out
          have hN := Lib.hid (put_next (b := b) (U := U) (j := 0) HF.out h2 HQ.out HL.out (.inr rfl))
          have hup := Lib.hid (up_piece (k := 0) (by omega))
          clear hll
          go_wp2
          go_roundg (Dig.nd b U - (0 + 1))
          case measure => have := hN.out.1; omega
          case rel => exact ⟨0 + 1, rfl, by
            have h := hN.out.2
            rw [Nat.zero_div, Nat.zero_mod] at h
            exact h, rfl⟩
        · have hne : l.isEmpty = false := by
            have h := HL.out
            cases l with
            | nil => cases j with
              | zero => exact absurd rfl hj0
              | succ j => cases h
            | cons _ _ => rfl
          have hE := put_end (b := b) (U := U) (j := j) HU.out h2 (by omega) HQ.out HJ.out
          rw [HL.out] at hE
          have HE := Lib.hid hE
          have h1l : 1 + l.length ≤ 9223372036854775807 := by omega
          clear hE
          go_wp2
          go_ret
          exact ⟨by rw [HP.out, ← HE.out]; first | rfl | exact congrArg (fun x => Ending.returned (.string x)) (txt_cons 45 _), rfl⟩
  · obtain ⟨U, rfl⟩ : ∃ U : Nat, v = (U : Int) := ⟨v.natAbs, by omega⟩
    have hU : (U : Int).natAbs = U := by omega
    rw [hU] at hf hul
    have HP := Lib.hid (show Dig.putV Dig.upD (U : Int) b = Dig.digs Dig.upD b U from by unfold Dig.putV Dig.sgn; rw [if_neg hn, hU]; rfl)
    have HF := Lib.hid hf
    have HU := Lib.hid hul
    clear hf hU hul
    go_enter Tryz.func7, Tryz.ntmps7
    go_wp2
    go_loopg [5, 6] (Dig.nd b U) (fun k u s wr => ∃ j, k = Dig.nd b U - j ∧ Hid (PutRel b U j u s) ∧ w = wr)
    case atStart => exact ⟨0, by omega, put_start _ _ _ (by first | rfl | exact pos_u64 (by omega)), rfl⟩
    case round =>
      obtain ⟨j, rfl, HR, rfl⟩ := hrel
      obtain ⟨hj, hlow, rfl, rfl⟩ := HR.out
      clear HR
      have HJ := Lib.hid hlow
      obtain ⟨q, hq⟩ : ∃ q, U / b ^ j = q := ⟨_, rfl⟩
      obtain ⟨l, hl⟩ : ∃ l, Dig.suf Dig.upD b U j = l := ⟨_, rfl⟩
      rw [hq, hl]
      have hqU : q ≤ U := by rw [← hq]; exact Nat.div_le_self _ _
      have hll : l.length ≤ 64 := by
        rw [← hl, Dig.suf_length]
        exact Nat.le_trans hj (Dig.nd_le h2 HU.out)
      have HQ := Lib.hid hq
      have HL := Lib.hid hl
      clear hq hl hlow
      by_cases hq0 : 0 < q
      · have r0 : 0 ≤ (q : Int) % (b : Int) := by omega
        have r1 : (q : Int) % (b : Int) < 36 := by have := Int.emod_lt_of_pos (q : Int) (show (0 : Int) < b by omega); omega
        have r2 : min (q % b + 1) 36 - q % b + l.length ≤ 9223372036854775807 := by omega
        have r3 : (q : Int) / (b : Int) ≤ 18446744073709551615 := by
          have h := HU.out
          rw [div_int]
          have := Nat.div_le_self q b
          omega
        have r4 : 0 ≤ (q : Int) / (b : Int) := Int.ediv_nonneg (by omega) (by omega)
        have hN := Lib.hid (put_next (b := b) (U := U) (j := j) HF.out h2 HQ.out HL.out (.inl hq0))
        have hup := Lib.hid (up_piece (k := q % b) (by have := Nat.mod_lt q (show b > 0 by omega); omega))
        go_wp2
        go_roundg (Dig.nd b U - (j + 1))
        case measure => have := hN.out.1; omega
        case rel => exact ⟨j + 1, rfl, by rw [div_int, hup.out, txt_cons]; exact hN.out.2, rfl⟩
      · obtain rfl : q = 0 := by omega
        by_cases hj0 : j = 0
        · subst hj0
          obtain rfl : [] = l := HL.out
          have hN := Lib.hid (put_next (b := b) (U := U) (j := 0) HF.out h2 HQ.out HL.out (.inr rfl))
          have hup := Lib.hid (up_piece (k := 0) (by omega))
          clear hll
          go_wp2
          go_roundg (Dig.nd b U - (0 + 1))
          case measure => have := hN.out.1; omega
          case rel => exact ⟨0 + 1, rfl, by
            have h := hN.out.2
            rw [Nat.zero_div, Nat.zero_mod] at h
            exact h, rfl⟩
        · have hne : l.isEmpty = false := by
            have h := HL.out
            cases l with
            | nil => cases j with
              | zero => exact absurd rfl hj0
              | succ j => cases h
            | cons _ _ => rfl
          have hE := put_end (b := b) (U := U) (j := j) HU.out h2 (by omega) HQ.out HJ.out
          rw [HL.out] at hE
          have HE := Lib.hid hE
          have h1l : 1 + l.length ≤ 9223372036854775807 := by omega
          clear hE
          go_wp2
          go_ret
          exact ⟨by rw [HP.out, ← HE.out]; rfl, rfl⟩
/-- what Put tells, whatever the base is -/
def putT (v b : Int) : List UInt8 := if Dig.rightB b then Dig.putV Dig.upD v b else []
theorem refPut_any (v b : Int) (v0 : -9223372036854775808 ≤ v) (v1 : v ≤ 9223372036854775807) (w : World) :
    Calls Tryz.prog 7 #[.int .i64 v, .int .i64 b] w fun e w' => e = .returned (txt (putT v b)) ∧ w = w' := by
  unfold putT
  cases hb : Dig.rightB b with
  | false => exact refPut_wrong v b hb w
  | true =>
    simp only [Dig.rightB, Bool.and_eq_true, decide_eq_true_eq] at hb
    obtain ⟨n, rfl⟩ := Int.eq_ofNat_of_zero_le (show 0 ≤ b by omega)
    exact refPut_right v n (by omega) (by omega) v0 v1 w
end Go.Proofs.YtoajkbdadcepaaaGreatDoor
