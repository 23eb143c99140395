/- OpTells: the walk. -/
import Derived.Test.YtlhamfiflmlepaaDoorOpAlive
import Derived.Deep.LoopGhost
import Derived.Deep.DeepCutAuto
namespace Go.Proofs.YtlhamfiflmlepaaDoor.OpTells
open Go.RowKit
set_option linter.unusedSimpArgs false
set_option linter.unusedVariables false
set_option maxHeartbeats 4000000 in
set_option maxRecDepth 100000 in
theorem main (a : Int) (s : ByteArray) (W : World) (hs : s.size ≤ 60) (hn : NamesIs W) :
    Calls Tryd.prog 3 #[.int .i64 a, .string s] W (Says (.bool true) W) := by
  have HSZ := Lib.hid hs
  have HNT := Lib.hid hn
  clear hn
  have C := Lib.hid (alive6 W HNT.out)
  have e1 : decide (60 < (s.size : Int)) = false := decide_eq_false (by omega)
  clear hs
  go_enter Tryd.func3, Tryd.ntmps3
  simp only [List.append_eq, List.cons_append, List.nil_append]
  go_wp2_with fail
  refine C.out.mono ?_
  rintro e w1 ⟨rfl, hb⟩
  have HB1 := Lib.hid hb
  clear hb C e1
  obtain ⟨m, hm⟩ : ∃ m, movesI a = m := ⟨_, rfl⟩
  have C := Lib.hid (opTakes_any a w1)
  have D := Lib.hid (fun w => opGives_any a w)
  have E := Lib.hid (fun w => refMoves_any a w)
  rw [hm] at C D E
  clear hm
  obtain ⟨m1, m2, m3, m4⟩ := m
  dsimp only at C D E
  go_wp2_with fail
  refine C.out.mono ?_
  rintro e w2 ⟨rfl, hb⟩
  have HB2 := Lib.hid (HB1.out.trans (hb.mono HB1.out.size))
  clear hb C
  go_wp2_with fail
  refine (D.out w2).mono ?_
  rintro e w3 ⟨rfl, hb⟩
  have HB3 := Lib.hid (HB2.out.trans (hb.mono HB2.out.size))
  clear hb D
  go_wp2_with fail
  refine (E.out w3).mono ?_
  rintro e wz ⟨rfl, hwz⟩
  subst wz
  clear E
  have C := Lib.hid (opOf_any s (by have := HSZ.out; omega) w3 (HNT.out.mono HB3.out))
  obtain ⟨on, hon⟩ : ∃ x, ofI s = x := ⟨_, rfl⟩
  obtain ⟨ob, hob⟩ : ∃ x, ofB s = x := ⟨_, rfl⟩
  have HON := Lib.hid (And.intro hon hob)
  rw [hon, hob] at C
  clear hon hob
  go_wp2_with fail
  refine C.out.mono ?_
  rintro e w4 ⟨rfl, hb⟩
  have HB4 := Lib.hid (HB3.out.trans (hb.mono HB3.out.size))
  clear hb C HB1 HB2 HB3
  go_wp2
  go_loopg [15, 16, 17] 48 (fun g n ok i wr => ∃ k : Nat, g = 48 - k ∧ k ≤ 48 ∧ i = .int .i64 k ∧ Hid (n = .int .i64 ((lastOp s k).getD 0 : Nat) ∧ ok = .bool (lastOp s k).isSome) ∧ Hid (Below W.heap.size W wr))
  case atStart => exact ⟨0, rfl, Nat.zero_le _, rfl, ⟨rfl, rfl⟩, HB4.out⟩
  case round =>
    obtain ⟨k, rfl, hk, rfl, HN, HB⟩ := hrel
    by_cases hlt : k < 48
    · have e1 : (k : Int) < 48 := by omega
      have C := Lib.hid (refName_any (k : Int) wr)
      rw [nameI_nat hlt] at C
      have D := Lib.hid (fun w => same_any (nameOf k) s (by have := nameOf_size hlt; omega) (by have := HSZ.out; omega) w)
      obtain ⟨nm, hnm⟩ : ∃ nm, nameOf k = nm := ⟨_, rfl⟩
      have HNM := Lib.hid hnm
      rw [hnm] at C D
      clear hnm
      go_wp2_with fail
      refine C.out.mono ?_
      rintro e w5 ⟨rfl, hb⟩
      have HB5 := Lib.hid (HB.out.trans (hb.mono HB.out.size))
      clear hb C
      by_cases ha : alike nm s = true
      · have HA := Lib.hid ha
        have D := Lib.hid (D.out w5)
        rw [ha] at D
        clear ha
        go_wp2_with fail
        refine D.out.mono ?_
        rintro e w6 ⟨rfl, hb⟩
        have HB6 := Lib.hid (HB5.out.trans (hb.mono HB5.out.size))
        clear hb D
        go_wp2
        go_roundg (48 - (k + 1))
        case measure => omega
        case rel => exact ⟨k + 1, rfl, by omega, by go_num, Lib.hid (by have h1 : lastOp s (k + 1) = some k := by unfold lastOp; rw [if_pos (by rw [HNM.out]; exact HA.out)]
                                                                        rw [h1]; exact ⟨rfl, rfl⟩), HB6⟩
      · have HA := Lib.hid ha
        have D := Lib.hid (D.out w5)
        rw [show alike nm s = false by simpa using ha] at D
        clear ha
        go_wp2_with fail
        refine D.out.mono ?_
        rintro e w6 ⟨rfl, hb⟩
        have HB6 := Lib.hid (HB5.out.trans (hb.mono HB5.out.size))
        clear hb D
        go_wp2
        go_roundg (48 - (k + 1))
        case measure => omega
        case rel => exact ⟨k + 1, rfl, by omega, by go_num, Lib.hid (by have h1 : lastOp s (k + 1) = lastOp s k := by rw [lastOp, if_neg (by rw [HNM.out]; exact HA.out)]
                                                                        rw [h1]; exact HN.out), HB6⟩
    · obtain rfl : k = 48 := by omega
      obtain ⟨rfl, rfl⟩ := HN.out
      rw [show (((lastOp s 48).getD 0 : Nat) : Int) = on from HON.out.1, show (lastOp s 48).isSome = ob from HON.out.2]
      clear hlt HN HB4
      obtain ⟨nm, hnm⟩ : ∃ nm, nameI a = nm := ⟨_, rfl⟩
      have C1 := Lib.hid (fun w (hn : NamesIs w) => opName_any a w hn)
      have C2 := Lib.hid (fun w (hn : NamesIs w) => opOf_any nm (by rw [← hnm]; have := nameI_size a; omega) w hn)
      have C3 := Lib.hid (fun w => opRight_any a w)
      have C4 := Lib.hid (fun w => refOp_any a w)
      have C5 := Lib.hid (fun w => refName_any a w)
      have C6 := Lib.hid (fun w => opArg_any a w)
      have C7 := Lib.hid (fun w => refArg_any a w)
      have C8 := Lib.hid (fun w => opPlain_any a w)
      have C9 := Lib.hid (fun w => refPlain_any a w)
      have hin : ofB nm = opB a ∧ (opB a = true → ofI nm = a) := by
        by_cases h : isOp a
        · obtain ⟨k, hk, rfl⟩ := nat_of_op h
          rw [nameI_nat hk] at hnm
          subst hnm
          unfold ofB ofI
          rw [ofN_name hk]
          exact ⟨by simp [opB, h], fun _ => rfl⟩
        · rw [nameI_no h] at hnm
          subst hnm
          unfold ofB ofI
          rw [ofN_empty]
          exact ⟨by simp [opB, h], fun h' => absurd h' (by simp [opB, h])⟩
      have e4 : decide (isOp a) = opB a := rfl
      rw [hnm] at C1 C5
      obtain ⟨r, hr⟩ : ∃ r, opB a = r := ⟨_, rfl⟩
      obtain ⟨p, hp⟩ : ∃ p, plainI a = p := ⟨_, rfl⟩
      obtain ⟨g, hg⟩ : ∃ g, argI a = g := ⟨_, rfl⟩
      rw [hr] at hin e4
      rw [hin.1] at C2
      have hval := hin.2
      obtain ⟨x, hx⟩ : ∃ x, ofI nm = x := ⟨_, rfl⟩
      rw [hx] at C2 hval
      simp only [hr, e4] at C3 C4
      rw [hg] at C6 C7
      rw [hp] at C8 C9
      clear hin hnm hr hp hg hx e4
      cases r
      · clear hval
        go_wp2_with fail
        refine (C1.out wr (HNT.out.mono HB.out)).mono ?_
        rintro e v1 ⟨rfl, hb⟩
        have HV1 := Lib.hid (HB.out.trans (hb.mono HB.out.size))
        clear hb
        go_wp2_with fail
        refine (C2.out v1 (HNT.out.mono HV1.out)).mono ?_
        rintro e v2 ⟨rfl, hb⟩
        have HV2 := Lib.hid (HV1.out.trans (hb.mono HV1.out.size))
        clear hb
        go_wp2_with fail
        refine (C3.out v2).mono ?_
        rintro e v3 ⟨rfl, hb⟩
        have HV3 := Lib.hid (HV2.out.trans (hb.mono HV2.out.size))
        clear hb
        go_wp2_with fail
        refine (C4.out v3).mono ?_
        rintro e wz ⟨rfl, hwz⟩
        subst wz
        go_wp2_with fail
        refine (C1.out v3 (HNT.out.mono HV3.out)).mono ?_
        rintro e v4 ⟨rfl, hb⟩
        have HV4 := Lib.hid (HV3.out.trans (hb.mono HV3.out.size))
        clear hb
        go_wp2_with fail
        refine (C5.out v4).mono ?_
        rintro e v5 ⟨rfl, hb⟩
        have HV5 := Lib.hid (HV4.out.trans (hb.mono HV4.out.size))
        clear hb
        go_wp2_with fail
        refine (C6.out v5).mono ?_
        rintro e v6 ⟨rfl, hb⟩
        have HV6 := Lib.hid (HV5.out.trans (hb.mono HV5.out.size))
        clear hb
        go_wp2_with fail
        refine (C7.out v6).mono ?_
        rintro e wz ⟨rfl, hwz⟩
        subst wz
        go_wp2_with fail
        refine (C8.out v6).mono ?_
        rintro e v7 ⟨rfl, hb⟩
        have HV7 := Lib.hid (HV6.out.trans (hb.mono HV6.out.size))
        clear hb
        go_wp2_with fail
        refine (C9.out v7).mono ?_
        rintro e wz ⟨rfl, hwz⟩
        subst wz
        go_wp2_with fail
        refine (C4.out v7).mono ?_
        rintro e wz ⟨rfl, hwz⟩
        subst wz
        clear C1 C2 C3 C4 C5 C6 C7 C8 C9
        go_wp2
        go_ret
        exact ⟨rfl, HV7.out⟩
      · obtain rfl := hval rfl
        clear hval
        go_wp2_with fail
        refine (C1.out wr (HNT.out.mono HB.out)).mono ?_
        rintro e v1 ⟨rfl, hb⟩
        have HV1 := Lib.hid (HB.out.trans (hb.mono HB.out.size))
        clear hb
        go_wp2_with fail
        refine (C2.out v1 (HNT.out.mono HV1.out)).mono ?_
        rintro e v2 ⟨rfl, hb⟩
        have HV2 := Lib.hid (HV1.out.trans (hb.mono HV1.out.size))
        clear hb
        go_wp2_with fail
        refine (C3.out v2).mono ?_
        rintro e v3 ⟨rfl, hb⟩
        have HV3 := Lib.hid (HV2.out.trans (hb.mono HV2.out.size))
        clear hb
        go_wp2_with fail
        refine (C4.out v3).mono ?_
        rintro e wz ⟨rfl, hwz⟩
        subst wz
        go_wp2_with fail
        refine (C1.out v3 (HNT.out.mono HV3.out)).mono ?_
        rintro e v4 ⟨rfl, hb⟩
        have HV4 := Lib.hid (HV3.out.trans (hb.mono HV3.out.size))
        clear hb
        go_wp2_with fail
        refine (C5.out v4).mono ?_
        rintro e v5 ⟨rfl, hb⟩
        have HV5 := Lib.hid (HV4.out.trans (hb.mono HV4.out.size))
        clear hb
        go_wp2_with fail
        refine (C6.out v5).mono ?_
        rintro e v6 ⟨rfl, hb⟩
        have HV6 := Lib.hid (HV5.out.trans (hb.mono HV5.out.size))
        clear hb
        go_wp2_with fail
        refine (C7.out v6).mono ?_
        rintro e wz ⟨rfl, hwz⟩
        subst wz
        go_wp2_with fail
        refine (C8.out v6).mono ?_
        rintro e v7 ⟨rfl, hb⟩
        have HV7 := Lib.hid (HV6.out.trans (hb.mono HV6.out.size))
        clear hb
        go_wp2_with fail
        refine (C9.out v7).mono ?_
        rintro e wz ⟨rfl, hwz⟩
        subst wz
        go_wp2_with fail
        refine (C4.out v7).mono ?_
        rintro e wz ⟨rfl, hwz⟩
        subst wz
        clear C1 C2 C3 C4 C5 C6 C7 C8 C9
        go_wp2
        go_ret
        exact ⟨rfl, HV7.out⟩
theorem early (a : Int) (s : ByteArray) (W : World) (hs : 60 < s.size) (hn : NamesIs W) :
    Calls Tryd.prog 3 #[.int .i64 a, .string s] W (Says (.bool true) W) := by
  have HNT := Lib.hid hn
  clear hn
  have C := Lib.hid (alive6 W HNT.out)
  have e1 : decide (60 < (s.size : Int)) = true := decide_eq_true (by omega)
  clear hs
  go_enter Tryd.func3, Tryd.ntmps3
  simp only [List.append_eq, List.cons_append, List.nil_append]
  go_wp2_with fail
  refine C.out.mono ?_
  rintro e w1 ⟨rfl, hb⟩
  have HB1 := Lib.hid hb
  clear hb C
  go_wp2
  go_ret
  exact ⟨rfl, HB1.out⟩
theorem walk (a : Int) (s : ByteArray) (W : World) (hn : NamesIs W) : Calls Tryd.prog 3 #[.int .i64 a, .string s] W (Says (.bool true) W) := by
  by_cases h : 60 < s.size
  · exact early a s W h hn
  · exact main a s W (by omega) hn
end Go.Proofs.YtlhamfiflmlepaaDoor.OpTells
