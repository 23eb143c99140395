/- OpBalance: the walk. -/
import Derived.Test.YtlhamfiflmlepaaDoorOpAlive
import Derived.WideShapes
namespace Go.Proofs.YtlhamfiflmlepaaDoor.OpBalance
open Go.RowKit
set_option linter.unusedSimpArgs false
set_option linter.unusedVariables false
set_option maxHeartbeats 4000000 in
set_option maxRecDepth 100000 in
theorem walk (a b : Int) (W : World) (hn : NamesIs W) : Calls Tryd.prog 4 #[.int .i64 a, .int .i64 b] W (Says (.bool true) W) := by
  have HNT := Lib.hid hn
  clear hn
  have C := Lib.hid (alive6 W HNT.out)
  obtain ⟨m, hm⟩ : ∃ m, movesI a = m := ⟨_, rfl⟩
  have hin := movesI_in a
  have C1 := Lib.hid (fun w => opTakes_any a w)
  have C2 := Lib.hid (fun w => opGives_any a w)
  rw [hm] at C1 C2 hin
  have hz : ¬ isOp a → m = (0, 0, 0, 0) := fun h => by rw [← hm]; unfold movesI; rw [if_neg h]
  have HZ := Lib.hid hz
  obtain ⟨m1, m2, m3, m4⟩ := m
  dsimp only at C1 C2 hin
  obtain ⟨i1, i2, i3, i4, i5, i6, i7, i8⟩ := hin
  have D1 := Lib.hid (fun w => opRight_any a w)
  have D2 := Lib.hid (fun w => opRight_any b w)
  have E1 := Lib.hid (fun w (hn : NamesIs w) => opName_any a w hn)
  have E2 := Lib.hid (fun w (hn : NamesIs w) => opName_any b w hn)
  clear hm hz
  have d1 : decide (m1 < 0) = false := decide_eq_false (by omega)
  have d2 : decide (m2 < 0) = false := decide_eq_false (by omega)
  have d3 : decide (m3 < 0) = false := decide_eq_false (by omega)
  have d4 : decide (m4 < 0) = false := decide_eq_false (by omega)
  have d5 : decide (4 < m1) = false := decide_eq_false (by omega)
  have d6 : decide (4 < m2) = false := decide_eq_false (by omega)
  have d7 : decide (4 < m3) = false := decide_eq_false (by omega)
  have d8 : decide (4 < m4) = false := decide_eq_false (by omega)
  have F1 := Lib.hid (fun w => opPlain_any a w)
  have F2 := Lib.hid (fun w => opArg_any a w)
  go_enter Tryd.func4, Tryd.ntmps4
  go_wp2_with fail
  refine C.out.mono ?_
  rintro e w1 ⟨rfl, hb⟩
  have HB1 := Lib.hid hb
  clear hb C
  go_wp2_with fail
  refine (C1.out w1).mono ?_
  rintro e w2 ⟨rfl, hb⟩
  have HB2 := Lib.hid (HB1.out.trans (hb.mono HB1.out.size))
  clear hb C1
  go_wp2_with fail
  refine (C2.out w2).mono ?_
  rintro e w3 ⟨rfl, hb⟩
  have HB3 := Lib.hid (HB2.out.trans (hb.mono HB2.out.size))
  clear hb C2
  by_cases ha : isOp a
  · rw [show opB a = true from decide_eq_true ha] at D1
    have g1 : (0 : Int) ≤ a := ha.1
    have g2 : a < 48 := ha.2
    by_cases hb : isOp b
    · rw [show opB b = true from decide_eq_true hb] at D2
      by_cases hab : a = b
      · subst hab
        go_wp2_with fail
        refine (D1.out w3).mono ?_
        rintro e v1 ⟨rfl, hb⟩
        have HV1 := Lib.hid (HB3.out.trans (hb.mono HB3.out.size))
        clear hb
        go_wp2_with fail
        refine (D1.out v1).mono ?_
        rintro e v2 ⟨rfl, hb⟩
        have HV2 := Lib.hid (HV1.out.trans (hb.mono HV1.out.size))
        clear hb
        go_wp2_with fail
        refine (D2.out v2).mono ?_
        rintro e v3 ⟨rfl, hb⟩
        have HV3 := Lib.hid (HV2.out.trans (hb.mono HV2.out.size))
        clear hb
        go_wp2_with fail
        refine (D1.out v3).mono ?_
        rintro e v4 ⟨rfl, hb⟩
        have HV4 := Lib.hid (HV3.out.trans (hb.mono HV3.out.size))
        clear hb
        go_wp2_with fail
        refine (D1.out v4).mono ?_
        rintro e v5 ⟨rfl, hb⟩
        have HV5 := Lib.hid (HV4.out.trans (hb.mono HV4.out.size))
        clear hb
        go_wp2
        go_ret
        exact ⟨rfl, HV5.out⟩
      · have hne : ((nameI a).toList == (nameI b).toList) = false := by
          rw [beq_eq_false_iff_ne]
          intro e
          rw [ByteArray.toList_eq, ByteArray.toList_eq] at e
          exact hab (nameI_inj ha hb (Go.WideShapes.bytes_inj e))
        have hne2 : (a != b) = true := by simpa using hab
        obtain ⟨na, hna⟩ : ∃ x, nameI a = x := ⟨_, rfl⟩
        obtain ⟨nb, hnb⟩ : ∃ x, nameI b = x := ⟨_, rfl⟩
        rw [hna] at E1 hne
        rw [hnb] at E2 hne
        clear hna hnb hab ha hb HZ
        go_wp2_with fail
        refine (D1.out w3).mono ?_
        rintro e v1 ⟨rfl, hb⟩
        have HV1 := Lib.hid (HB3.out.trans (hb.mono HB3.out.size))
        clear hb
        go_wp2_with fail
        refine (D1.out v1).mono ?_
        rintro e v2 ⟨rfl, hb⟩
        have HV2 := Lib.hid (HV1.out.trans (hb.mono HV1.out.size))
        clear hb
        go_wp2_with fail
        refine (D2.out v2).mono ?_
        rintro e v3 ⟨rfl, hb⟩
        have HV3 := Lib.hid (HV2.out.trans (hb.mono HV2.out.size))
        clear hb
        go_wp2_with fail
        refine (E1.out v3 (HNT.out.mono HV3.out)).mono ?_
        rintro e v4 ⟨rfl, hb⟩
        have HV4 := Lib.hid (HV3.out.trans (hb.mono HV3.out.size))
        clear hb
        go_wp2_with fail
        refine (E2.out v4 (HNT.out.mono HV4.out)).mono ?_
        rintro e v5 ⟨rfl, hb⟩
        have HV5 := Lib.hid (HV4.out.trans (hb.mono HV4.out.size))
        clear hb
        go_wp2_with fail
        refine (D1.out v5).mono ?_
        rintro e v6 ⟨rfl, hb⟩
        have HV6 := Lib.hid (HV5.out.trans (hb.mono HV5.out.size))
        clear hb
        go_wp2_with fail
        refine (D1.out v6).mono ?_
        rintro e v7 ⟨rfl, hb⟩
        have HV7 := Lib.hid (HV6.out.trans (hb.mono HV6.out.size))
        clear hb
        go_wp2
        go_ret
        exact ⟨rfl, HV7.out⟩
    · rw [show opB b = false from decide_eq_false hb] at D2
      go_wp2_with fail
      refine (D1.out w3).mono ?_
      rintro e v1 ⟨rfl, hb⟩
      have HV1 := Lib.hid (HB3.out.trans (hb.mono HB3.out.size))
      clear hb
      go_wp2_with fail
      refine (D1.out v1).mono ?_
      rintro e v2 ⟨rfl, hb⟩
      have HV2 := Lib.hid (HV1.out.trans (hb.mono HV1.out.size))
      clear hb
      go_wp2_with fail
      refine (D2.out v2).mono ?_
      rintro e v3 ⟨rfl, hb⟩
      have HV3 := Lib.hid (HV2.out.trans (hb.mono HV2.out.size))
      clear hb
      go_wp2_with fail
      refine (D1.out v3).mono ?_
      rintro e v4 ⟨rfl, hb⟩
      have HV4 := Lib.hid (HV3.out.trans (hb.mono HV3.out.size))
      clear hb
      go_wp2_with fail
      refine (D1.out v4).mono ?_
      rintro e v5 ⟨rfl, hb⟩
      have HV5 := Lib.hid (HV4.out.trans (hb.mono HV4.out.size))
      clear hb
      go_wp2
      go_ret
      exact ⟨rfl, HV5.out⟩
  · rw [show opB a = false from decide_eq_false ha] at D1
    rw [nameI_no ha] at E1
    rw [show plainI a = false by unfold plainI; rw [if_neg ha]] at F1
    rw [show argI a = false by unfold argI; rw [if_neg ha]] at F2
    obtain h0 := HZ.out ha
    simp only [Prod.mk.injEq] at h0
    obtain ⟨rfl, rfl, rfl, rfl⟩ := h0
    clear HZ d1 d2 d3 d4 d5 d6 d7 d8 i1 i2 i3 i4 i5 i6 i7 i8
    rcases (by omega : a < 0 ∨ 48 ≤ a) with h | h
    all_goals
      clear ha
      try have hd : decide (a < 48) = false := decide_eq_false (by omega)
      go_wp2_with fail
      refine (D1.out w3).mono ?_
      rintro e v1 ⟨rfl, hb⟩
      have HV1 := Lib.hid (HB3.out.trans (hb.mono HB3.out.size))
      clear hb
      go_wp2_with fail
      refine (D1.out v1).mono ?_
      rintro e v2 ⟨rfl, hb⟩
      have HV2 := Lib.hid (HV1.out.trans (hb.mono HV1.out.size))
      clear hb
      go_wp2_with fail
      refine (D1.out v2).mono ?_
      rintro e v3 ⟨rfl, hb⟩
      have HV3 := Lib.hid (HV2.out.trans (hb.mono HV2.out.size))
      clear hb
      go_wp2_with fail
      refine (D1.out v3).mono ?_
      rintro e v4 ⟨rfl, hb⟩
      have HV4 := Lib.hid (HV3.out.trans (hb.mono HV3.out.size))
      clear hb
      go_wp2_with fail
      refine (E1.out v4 (HNT.out.mono HV4.out)).mono ?_
      rintro e v5 ⟨rfl, hb⟩
      have HV5 := Lib.hid (HV4.out.trans (hb.mono HV4.out.size))
      clear hb
      go_wp2_with fail
      refine (F1.out v5).mono ?_
      rintro e v6 ⟨rfl, hb⟩
      have HV6 := Lib.hid (HV5.out.trans (hb.mono HV5.out.size))
      clear hb
      go_wp2_with fail
      refine (F2.out v6).mono ?_
      rintro e v7 ⟨rfl, hb⟩
      have HV7 := Lib.hid (HV6.out.trans (hb.mono HV6.out.size))
      clear hb
      go_wp2
      go_ret
      exact ⟨rfl, HV7.out⟩
end Go.Proofs.YtlhamfiflmlepaaDoor.OpBalance
