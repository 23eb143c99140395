/- The walk of hollowaylaw3.DigitsOther. -/
import Derived.Test.YtoajkbdadcepaaaDoorDigBackW
import Derived.Test.YtoajkbdadcepaaaDoorDigMore
import Derived.Deep.RegionWith
import Derived.Lib.SmallJoins
namespace Go.Proofs.YtoajkbdadcepaaaDoor
open Go.RowKit
set_option linter.unusedSimpArgs false
set_option linter.unusedVariables false
theorem other_ways (b d : Int) : b < 2 ∨ (2 ≤ b ∧ 36 < b) ∨ (2 ≤ b ∧ b ≤ 36 ∧ d < b) ∨ (2 ≤ b ∧ b ≤ 36 ∧ b ≤ d ∧ 35 < d) ∨ ∃ B D : Nat, b = B ∧ d = D ∧ 2 ≤ B ∧ B ≤ 36 ∧ B ≤ D ∧ D < 36 := by
  by_cases h0 : b < 2
  · exact .inl h0
  by_cases h1 : 36 < b
  · exact .inr (.inl ⟨by omega, h1⟩)
  by_cases h2 : d < b
  · exact .inr (.inr (.inl ⟨by omega, by omega, h2⟩))
  by_cases h3 : 35 < d
  · exact .inr (.inr (.inr (.inl ⟨by omega, by omega, by omega, h3⟩)))
  · exact .inr (.inr (.inr (.inr ⟨b.toNat, d.toNat, by omega, by omega, by omega, by omega, by omega, by omega⟩)))
theorem to_nat {X : Int} {n : Nat} (h0 : 0 ≤ X) (h1 : X ≤ n) : ∃ m : Nat, m ≤ n ∧ Value.int .i64 X = .int .i64 m := ⟨X.toNat, by omega, by rw [Int.toNat_of_nonneg h0]⟩
theorem head_neg {v : Int} {b : Nat} (hb : 2 ≤ b) (h36 : b ≤ 36) {T : ByteArray} (hT : T = ⟨(Dig.putV Dig.upD v b).toArray⟩) (h0 : 0 < T.size) (h : v < 0) : ((T[0].toNat : Int) == 45) = true := by
  subst hT
  have e : Dig.putV Dig.upD v b = 45 :: Dig.digs Dig.upD b v.natAbs := by unfold Dig.putV Dig.sgn; rw [if_pos h, Int.toNat_natCast]; rfl
  have h1 := at_data ⟨(Dig.putV Dig.upD v b).toArray⟩ 0 h0
  have h2 : (Dig.putV Dig.upD v b)[0]? = some 45 := by rw [e]; rfl
  have h3 := Option.some.inj (h1.symm.trans h2)
  rw [h3]
  rfl
theorem three (T : ByteArray) (m : Nat) (c : UInt8) (hm : m ≤ T.size) : T.extract 0 m ++ ⟨[c].toArray⟩ ++ T.extract m T.size = ⟨(T.data.toList.take m ++ [c] ++ T.data.toList.drop m).toArray⟩ := by
  apply ByteArray.ext
  apply Array.toList_inj.1
  rw [ByteArray.data_append, ByteArray.data_append, Array.toList_append, Array.toList_append, Lib.extract_data, Lib.extract_data, List.drop_zero, Nat.sub_zero, List.take_of_length_le (l := T.data.toList.drop m) (by simp)]
set_option maxHeartbeats 8000000 in
set_option maxRecDepth 100000 in
theorem other_walk (v b a d : Int) (wv : (Lit.int .i64 v).wf = true) (wb : (Lit.int .i64 b).wf = true) (wa : (Lit.int .i64 a).wf = true) (wd : (Lit.int .i64 d).wf = true) (w : World) (hz : Zeros w) (ht : Tens w) :
    Calls Tryd.prog 6 #[.int .i64 v, .int .i64 b, .int .i64 a, .int .i64 d] w fun e w' => e = .returned (.bool true) ∧ Below w.heap.size w w' := by
  have A := Lib.hid (alive3 w hz ht)
  have HV := wf_range wv
  have HD := wf_range wa
  rcases other_ways b d with h | h | h | h | ⟨B, D, rfl, rfl, h0, h1, h2, h3⟩
  iterate 4
    · clear hz ht wv wb wa wd HV HD
      go_enter Tryd.func6, Tryd.ntmps6
      go_wp2_with fail
      refine A.out.mono ?_
      rintro e w1 ⟨rfl, hb⟩
      go_wp2
      go_ret
      exact ⟨rfl, hb⟩
  have hb : Dig.rightB (B : Int) = true := by simp [Dig.rightB]; omega
  have P := fun (v n : Int) v0 v1 w1 (h1 : Zeros w1) (h2 : Tens w1) => Lib.hid (put_any v n v0 v1 w1 h1 h2)
  have P0 := P v B HV.1 HV.2
  rw [putT_of hb] at P0
  have P1 := P D 36 (by omega) (by omega)
  rw [putT_of (by decide), Dig.put_one (by omega)] at P1
  have hl := Dig.put_length Dig.upD v B (by omega) (Dig.abs_lt HV.1 HV.2)
  obtain ⟨T, hT⟩ : ∃ T : ByteArray, T = ⟨(Dig.putV Dig.upD v B).toArray⟩ := ⟨_, rfl⟩
  have hTl : T.data.toList = Dig.putV Dig.upD v B := by rw [hT]
  have hTs : T.size = (Dig.putV Dig.upD v B).length := by rw [← size_len, hTl]
  have g0 : 0 < T.size := by omega
  have g1 : T.size ≤ 65 := by omega
  have HO := Lib.hid (fun k hk => Dig.other_get (v := v) (b := B) (d := D) (k := k) (by omega) (by omega) (by omega) (by omega) hk)
  rw [← hTl] at HO
  have HH := Lib.hid (fun h => head_neg (v := v) (by omega) (by omega) hT g0 h)
  rw [show txt (Dig.putV Dig.upD v B) = .string T from by rw [hT]] at P0
  have G := fun T' h => Lib.hid (get_any T' B h)
  have G0 := G ⟨#[]⟩ (by decide)
  rw [show (⟨#[]⟩ : ByteArray).data.toList = [] from rfl, Dig.get_none.1] at G0
  have G1 := G ⟨#[45]⟩ (by decide)
  rw [show (⟨#[45]⟩ : ByteArray).data.toList = [45] from rfl, Dig.get_none.2] at G1
  have HZ := Lib.hid hz
  have HT := Lib.hid ht
  have q1 : -((T.size : Int) + 1) < a.tmod ((T.size : Int) + 1) := Int.lt_tmod_of_pos a (by omega)
  have q2 : a.tmod ((T.size : Int) + 1) < (T.size : Int) + 1 := Int.tmod_lt_of_pos a (by omega)
  clear hz ht wv wb wa wd P hb hT hTl hTs hl
  go_enter Tryd.func6, Tryd.ntmps6
  go_wp2_with fail
  refine A.out.mono ?_
  rintro e w1 ⟨rfl, hb1⟩
  have HB1 := Lib.hid hb1
  clear hb1
  go_wp2_with fail
  refine (P0 _ (HZ.out.mono HB1.out) (HT.out.mono HB1.out)).out.mono ?_
  rintro e w2 ⟨rfl, hb2⟩
  have HB2 := Lib.hid (HB1.out.trans (hb2.mono HB1.out.size))
  clear hb2
  go_upto_region 6 with fail
  go_cut [10] (fun k wx => (∃ m : Nat, m ≤ T.size ∧ k = .int .i64 m) ∧ w2 = wx)
  case first =>
    go_wp2
    go_meet
    exact ⟨to_nat (by first | exact Int.emod_nonneg _ (by omega) | omega) (by have := Int.emod_lt_of_pos (a.tmod ((T.size : Int) + 1) + (T.size : Int) + 1) (show 0 < (T.size : Int) + 1 by omega); omega), rfl⟩
  case rest =>
    obtain ⟨⟨m, hm, rfl⟩, rfl⟩ := hcut
    clear q1 q2
    go_upto_region 7 with fail
    go_cut [63] (fun t wx => (∃ z : Bool, t = .bool z ∧ Hid ((z = true → m = 0) ∧ (z = false → v < 0 → 1 ≤ m))) ∧ w2 = wx)
    case first =>
      by_cases hm0 : m = 0
      · subst hm0
        obtain ⟨c, hc⟩ : ∃ c, T[0] = c := ⟨_, rfl⟩
        by_cases h45 : ((c.toNat : Int) == 45) = true
        · go_wp2
          go_meet
          exact ⟨⟨true, rfl, fun _ => (by first | rfl | trivial), fun h => by cases h⟩, rfl⟩
        · have h45' : ((c.toNat : Int) == 45) = false := by simpa using h45
          have HN := Lib.hid h45
          clear h45
          go_wp2
          go_meet
          exact ⟨⟨false, rfl, fun h => (by cases h), fun _ h => absurd (by have := HH.out h; rwa [hc] at this) HN.out⟩, rfl⟩
      · have hm1 : ((m : Int) == 0) = false := by rw [beq_eq_false_iff_ne]; omega
        obtain ⟨c, hc⟩ : ∃ c, T[0] = c := ⟨_, rfl⟩
        cases h45 : ((c.toNat : Int) == 45)
        all_goals
          go_wp2
          go_meet
          exact ⟨⟨false, rfl, fun h => (by cases h), fun _ _ => by omega⟩, rfl⟩
    case rest =>
      obtain ⟨⟨z, rfl, HM⟩, rfl⟩ := hcut
      go_upto_if 63 with fail
      go_cut [10] (fun k wx => (∃ m : Nat, m ≤ T.size ∧ k = .int .i64 m ∧ Hid (v < 0 → 1 ≤ m)) ∧ w2 = wx)
      case first =>
        cases z
        · go_wp2
          go_meet
          exact ⟨⟨m, hm, rfl, HM.out.2 (by first | rfl | trivial)⟩, rfl⟩
        · go_wp2
          go_meet
          exact ⟨⟨1, by omega, rfl, fun _ => Nat.le_refl _⟩, rfl⟩
      case rest =>
        clear hm HM
        obtain ⟨⟨m, hm, rfl, HM⟩, rfl⟩ := hcut
        have HX := Lib.hid (three T m (Dig.upD D) hm)
        have l1 : m + 1 ≤ 9223372036854775807 := by omega
        have l2 : m + 1 + (T.size - m) ≤ 9223372036854775807 := by omega
        go_upto_region 9 with fail
        go_cut [11] (fun t wx => t = .string (T.extract 0 m ++ ⟨[Dig.upD D].toArray⟩ ++ T.extract m T.size) ∧ Hid (Below w.heap.size w wx))
        case first =>
          have HZ2 := Lib.hid (HZ.out.mono HB2.out)
          have HT2 := Lib.hid (HT.out.mono HB2.out)
          go_region_with (go_at_call 10; refine (P1 _ ?_ ?_).out.mono ?_; exact HZ2.out; exact HT2.out; rintro e w3 ⟨rfl, hb3⟩)
          all_goals (go_wp2; go_meet; exact ⟨rfl, HB2.out.drew.trans (hb3.mono HB2.out.size)⟩)
        case rest =>
          obtain ⟨rfl, HB3⟩ := hcut
          have hg : Dig.getV (T.extract 0 m ++ ⟨[Dig.upD D].toArray⟩ ++ T.extract m T.size).data.toList B = (0, false) := by rw [HX.out, text_data]; exact HO.out m HM.out
          have GX := Lib.hid (get_any (T.extract 0 m ++ ⟨[Dig.upD D].toArray⟩ ++ T.extract m T.size) B (by rw [ByteArray.size_append, ByteArray.size_append, ByteArray.size_extract, ByteArray.size_extract]; show _ + 1 + _ ≤ maxLen; unfold maxLen; omega))
          rw [hg] at GX
          clear hg l1 l2 hm
          go_wp2_with fail
          refine (GX.out _).mono ?_
          rintro e w4 ⟨rfl, rfl⟩
          go_wp2_with fail
          refine (G0.out _).mono ?_
          rintro e w4 ⟨rfl, rfl⟩
          go_wp2_with fail
          refine (G1.out _).mono ?_
          rintro e w4 ⟨rfl, rfl⟩
          go_wp2
          go_ret
          exact ⟨rfl, HB3.out⟩
end Go.Proofs.YtoajkbdadcepaaaDoor
