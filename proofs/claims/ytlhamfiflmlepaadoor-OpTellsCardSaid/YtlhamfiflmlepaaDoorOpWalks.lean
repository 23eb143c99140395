/- Package op: what each of its calls answers, for every number and every text; the table of names holds them. -/
import Derived.Test.YtlhamfiflmlepaaDoorNames
import Derived.Test.YtlhamfiflmlepaaDoorOpFromStack
import Derived.Test.YtlhamfiflmlepaaDoorOpFromBack
import Derived.Test.YtlhamfiflmlepaaDoorOpToStack
import Derived.Test.YtlhamfiflmlepaaDoorOpToBack
import Derived.Deep.LoopGhost
import Derived.Deep.QuietTactic
import Derived.BigQuiet
namespace Go.Proofs.YtlhamfiflmlepaaDoor
open Go.RowKit
set_option linter.unusedSimpArgs false
set_option linter.unusedVariables false
theorem op_below_drewN (B : Nat) (w : World) : ∀ n, Below B w (w.drewN n)
  | 0 => Below.refl _ _
  | n + 1 => by rw [← World.drew_drewN]; exact (op_below_drewN B w n).drew
theorem opRight_same (a : Int) (w : World) : Calls Tryd.prog 14 #[.int .i64 a] w fun e w' => e = .returned (.bool (opB a)) ∧ w' = w := by
  by_cases h0 : 0 ≤ a
  · have e0 : opB a = decide (a < 48) := by simp [opB, isOp, h0]
    rw [e0]
    clear e0
    go_enter Tryd.func14, Tryd.ntmps14
    go_wp2
    go_ret
    exact ⟨rfl, rfl⟩
  · have e0 : opB a = false := by simp [opB, isOp, h0]
    rw [e0]
    clear e0
    go_enter Tryd.func14, Tryd.ntmps14
    go_wp2
    go_ret
    exact ⟨rfl, rfl⟩
theorem opRight_any (a : Int) (w : World) : Calls Tryd.prog 14 #[.int .i64 a] w (Says (.bool (opB a)) w) :=
  (opRight_same a w).mono fun e w' h => Says.of h
theorem opName_same (a : Int) (w : World) (hn : NamesIs w) : Calls Tryd.prog 13 #[.int .i64 a] w fun e w' => e = .returned (.string (nameI a)) ∧ w' = w := by
  have C := Lib.hid (opRight_same a w)
  by_cases h : isOp a
  · obtain ⟨k, hk, rfl⟩ := nat_of_op h
    rw [show opB (k : Int) = true from decide_eq_true h] at C
    rw [nameI_nat hk]
    have hc := hn.cell hk
    have e0 : (0 : Int) ≤ (k : Int) := by omega
    have e1 : (k : Int) < 48 := by omega
    go_enter Tryd.func13, Tryd.ntmps13
    go_wp2_with fail
    refine C.out.mono ?_
    rintro e wz ⟨rfl, hwz⟩
    subst wz
    go_wp2
    go_ret
    exact ⟨rfl, rfl⟩
  · rw [show opB a = false from decide_eq_false h] at C
    rw [nameI_no h]
    go_enter Tryd.func13, Tryd.ntmps13
    go_wp2_with fail
    refine C.out.mono ?_
    rintro e wz ⟨rfl, hwz⟩
    subst wz
    go_wp2
    go_ret
    exact ⟨rfl, rfl⟩
theorem opName_any (a : Int) (w : World) (hn : NamesIs w) : Calls Tryd.prog 13 #[.int .i64 a] w (Says (.string (nameI a)) w) :=
  (opName_same a w hn).mono fun e w' h => Says.of h
theorem opArg_same (a : Int) (w : World) : Calls Tryd.prog 16 #[.int .i64 a] w fun e w' => e = .returned (.bool (argI a)) ∧ w' = w := by
  by_cases h : isOp a
  · obtain ⟨k, hk, rfl⟩ := nat_of_op h
    rw [show argI (k : Int) = argOf k by unfold argI; rw [if_pos h]; rfl]
    clear h
    by_cases h2 : k = 2
    · subst h2; go_enter Tryd.func16, Tryd.ntmps16; go_wp2; go_ret; exact ⟨rfl, rfl⟩
    by_cases h3 : k = 3
    · subst h3; go_enter Tryd.func16, Tryd.ntmps16; go_wp2; go_ret; exact ⟨rfl, rfl⟩
    by_cases h4 : k = 4
    · subst h4; go_enter Tryd.func16, Tryd.ntmps16; go_wp2; go_ret; exact ⟨rfl, rfl⟩
    by_cases h37 : k = 37
    · subst h37; go_enter Tryd.func16, Tryd.ntmps16; go_wp2; go_ret; exact ⟨rfl, rfl⟩
    by_cases h38 : k = 38
    · subst h38; go_enter Tryd.func16, Tryd.ntmps16; go_wp2; go_ret; exact ⟨rfl, rfl⟩
    have e : argOf k = false := by unfold argOf; exact decide_eq_false (by omega)
    rw [e]
    have e2 : ((k : Int) == 2) = false := by simp; omega
    have e3 : ((k : Int) == 3) = false := by simp; omega
    have e4 : ((k : Int) == 4) = false := by simp; omega
    have e37 : ((k : Int) == 37) = false := by simp; omega
    have e38 : ((k : Int) == 38) = false := by simp; omega
    go_enter Tryd.func16, Tryd.ntmps16
    go_wp2
    go_ret
    exact ⟨rfl, rfl⟩
  · rw [show argI a = false by unfold argI; rw [if_neg h]]
    rcases (by omega : a < 0 ∨ 48 ≤ a) with h | h
    all_goals
      go_enter Tryd.func16, Tryd.ntmps16
      go_wp2
      go_ret
      exact ⟨rfl, rfl⟩
theorem opArg_any (a : Int) (w : World) : Calls Tryd.prog 16 #[.int .i64 a] w (Says (.bool (argI a)) w) :=
  (opArg_same a w).mono fun e w' h => Says.of h
theorem opPlain_same (a : Int) (w : World) : Calls Tryd.prog 18 #[.int .i64 a] w fun e w' => e = .returned (.bool (plainI a)) ∧ w' = w := by
  have C := Lib.hid (opRight_same a w)
  by_cases h : isOp a
  · obtain ⟨k, hk, rfl⟩ := nat_of_op h
    rw [show opB (k : Int) = true from decide_eq_true h] at C
    rw [show plainI (k : Int) = plainOf k by unfold plainI; rw [if_pos h]; rfl]
    clear h
    by_cases h2 : k = 0
    · subst h2; go_enter Tryd.func18, Tryd.ntmps18; go_wp2; go_ret; exact ⟨rfl, rfl⟩
    by_cases h3 : k = 1
    · subst h3; go_enter Tryd.func18, Tryd.ntmps18; go_wp2; go_ret; exact ⟨rfl, rfl⟩
    by_cases h4 : k = 45
    · subst h4; go_enter Tryd.func18, Tryd.ntmps18; go_wp2; go_ret; exact ⟨rfl, rfl⟩
    by_cases h37 : k = 46
    · subst h37; go_enter Tryd.func18, Tryd.ntmps18; go_wp2; go_ret; exact ⟨rfl, rfl⟩
    have e : plainOf k = true := by unfold plainOf; exact decide_eq_true (by omega)
    rw [e]
    have e2 : ((k : Int) == 0) = false := by simp; omega
    have e3 : ((k : Int) == 1) = false := by simp; omega
    have e45 : ((k : Int) == 45) = false := by simp; omega
    have e46 : ((k : Int) == 46) = false := by simp; omega
    go_enter Tryd.func18, Tryd.ntmps18
    go_wp2_with fail
    refine C.out.mono ?_
    rintro e wz ⟨rfl, hwz⟩
    subst wz
    go_wp2
    go_ret
    exact ⟨rfl, rfl⟩
  · rw [show plainI a = false by unfold plainI; rw [if_neg h]]
    rw [show opB a = false from decide_eq_false h] at C
    rcases (by omega : a < 0 ∨ 48 ≤ a) with h | h
    all_goals
      go_enter Tryd.func18, Tryd.ntmps18
      go_wp2_with fail
      refine C.out.mono ?_
      rintro e wz ⟨rfl, hwz⟩
      subst wz
      go_wp2
      go_ret
      exact ⟨rfl, rfl⟩
theorem opPlain_any (a : Int) (w : World) : Calls Tryd.prog 18 #[.int .i64 a] w (Says (.bool (plainI a)) w) :=
  (opPlain_same a w).mono fun e w' h => Says.of h
theorem opTakes_same (a : Int) (w : World) : Calls Tryd.prog 7 #[.int .i64 a] w fun e w' => e = .returned (.tuple #[.int .i64 (movesI a).1, .int .i64 (movesI a).2.1]) ∧ w' = w := by
  have C := Lib.hid (fromStack_any a w)
  have D := Lib.hid (fromBack_any a w)
  generalize movesI a = m at C D ⊢
  obtain ⟨m1, m2, m3, m4⟩ := m
  dsimp only at C D ⊢
  go_enter Tryd.func7, Tryd.ntmps7
  go_wp2_with fail
  refine C.out.mono ?_
  rintro e wz ⟨rfl, hwz⟩
  subst wz
  clear C
  go_wp2_with fail
  refine D.out.mono ?_
  rintro e wz ⟨rfl, hwz⟩
  subst wz
  go_wp2
  go_ret2
  exact ⟨rfl, rfl⟩
theorem opTakes_any (a : Int) (w : World) : Calls Tryd.prog 7 #[.int .i64 a] w (Says (.tuple #[.int .i64 (movesI a).1, .int .i64 (movesI a).2.1]) w) :=
  (opTakes_same a w).mono fun e w' h => Says.of h
theorem opGives_same (a : Int) (w : World) : Calls Tryd.prog 8 #[.int .i64 a] w fun e w' => e = .returned (.tuple #[.int .i64 (movesI a).2.2.1, .int .i64 (movesI a).2.2.2]) ∧ w' = w := by
  have C := Lib.hid (toStack_any a w)
  have D := Lib.hid (toBack_any a w)
  generalize movesI a = m at C D ⊢
  obtain ⟨m1, m2, m3, m4⟩ := m
  dsimp only at C D ⊢
  go_enter Tryd.func8, Tryd.ntmps8
  go_wp2_with fail
  refine C.out.mono ?_
  rintro e wz ⟨rfl, hwz⟩
  subst wz
  clear C
  go_wp2_with fail
  refine D.out.mono ?_
  rintro e wz ⟨rfl, hwz⟩
  subst wz
  go_wp2
  go_ret2
  exact ⟨rfl, rfl⟩
theorem opGives_any (a : Int) (w : World) : Calls Tryd.prog 8 #[.int .i64 a] w (Says (.tuple #[.int .i64 (movesI a).2.2.1, .int .i64 (movesI a).2.2.2]) w) :=
  (opGives_same a w).mono fun e w' h => Says.of h
theorem opGreat_any (c : UInt8) (w : World) : Calls Tryd.prog 28 #[.int .u8 (c.toNat : Int)] w fun e w' => e = .returned (.int .u8 ((Lib.upperB c).toNat : Int)) ∧ w' = w := by
  rcases lower_cases c with ⟨x1, x2, x3⟩ | ⟨x1, x3⟩ | ⟨x1, x2, x3⟩
  · rw [x3]
    clear x3
    go_enter Tryd.func28, Tryd.ntmps28
    go_wp2
    go_ret
    exact ⟨rfl, rfl⟩
  · rw [x3]
    clear x3
    go_enter Tryd.func28, Tryd.ntmps28
    go_wp2
    go_ret
    exact ⟨rfl, rfl⟩
  · rw [x3]
    clear x3
    go_enter Tryd.func28, Tryd.ntmps28
    go_wp2
    go_ret
    exact ⟨rfl, rfl⟩
/-- is a text that name, of which the letters are great? -/
def namedB (s t : ByteArray) : Bool := decide (s.data.toList.map Lib.upperB = t.data.toList)
theorem namedB_size {s t : ByteArray} (h : s.size ≠ t.size) : namedB s t = false := by
  unfold namedB
  refine decide_eq_false fun e => h ?_
  have := congrArg List.length e
  rw [List.length_map, bytes_len, bytes_len] at this
  exact this
theorem byte_at (s : ByteArray) (k : Nat) (h : k < s.size) : s.data.toList[k]? = some s[k] := by
  rw [List.getElem?_eq_getElem (by rw [bytes_len]; exact h)]
  rfl
theorem take_step {s t : ByteArray} {k : Nat} (hs : k < s.size) (ht : k < t.size) : ((s.data.toList.take (k + 1)).map Lib.upperB = t.data.toList.take (k + 1)) ↔ ((s.data.toList.take k).map Lib.upperB = t.data.toList.take k ∧ Lib.upperB s[k] = t[k]) := by
  rw [List.take_add_one, List.take_add_one, byte_at s k hs, byte_at t k ht, List.map_append]
  simp only [Option.toList_some, List.map_cons, List.map_nil]
  constructor
  · intro e
    have := List.append_inj e (by simp [List.length_take, bytes_len]; omega)
    exact ⟨this.1, by simpa using this.2⟩
  · rintro ⟨e1, e2⟩
    rw [e1, e2]
set_option maxHeartbeats 4000000 in
theorem named_any (s t : ByteArray) (w : World) (hs : s.size ≤ 1000000) (ht : t.size ≤ 1000000) : Calls Tryd.prog 26 #[.string s, .string t] w fun e w' => e = .returned (.bool (namedB s t)) ∧ ∃ q, w' = w.drewN q := by
  by_cases hz : s.size = t.size
  · have hzi : (s.size : Int) = (t.size : Int) := by omega
    go_enter Tryd.func26, Tryd.ntmps26
    go_wp2
    go_loopg [13] s.size (fun g i wr => ∃ k : Nat, g = s.size - k ∧ k ≤ s.size ∧ i = .int .i64 k ∧ Hid ((s.data.toList.take k).map Lib.upperB = t.data.toList.take k) ∧ Hid (∃ q, wr = w.drewN q))
    case atStart => exact ⟨0, rfl, Nat.zero_le _, rfl, rfl, 0, rfl⟩
    case round =>
      obtain ⟨k, rfl, hk, rfl, HE, HQ⟩ := hrel
      by_cases hlt : k < s.size
      · have hk0 : (0 : Int) ≤ (k : Int) := by omega
        have hk1 : (k : Int) < (s.size : Int) := by omega
        have hk2 : (k : Int) < (t.size : Int) := by omega
        have htl : k < t.size := by omega
        have hst := take_step hlt htl
        have HST := Lib.hid hst
        obtain ⟨x, hx⟩ : ∃ x, s[k] = x := ⟨_, rfl⟩
        obtain ⟨y, hy⟩ : ∃ y, t[k] = y := ⟨_, rfl⟩
        rw [hx, hy] at HST
        have C := Lib.hid (fun w => opGreat_any x w)
        by_cases hxy : Lib.upperB x = y
        · have hb : (((Lib.upperB x).toNat : Int) != (y.toNat : Int)) = false := by rw [hxy]; simp
          go_wp2
          go_quiet ((go_at_call 28; exact Calls.quiet_of_same (C.out _)))
          go_wp2
          go_roundg (s.size - (k + 1))
          case measure => omega
          case rel => exact ⟨k + 1, rfl, by omega, by go_num, Lib.hid (HST.out.2 ⟨HE.out, hxy⟩), by obtain ⟨q, e⟩ := HQ.out; rw [e]; exact ⟨_, World.drewN_drewN _ _ _⟩⟩
        · have hb : (((Lib.upperB x).toNat : Int) != (y.toNat : Int)) = true := by
            rw [bne_iff_ne]; intro e; exact hxy (UInt8.toNat_inj.1 (by omega))
          go_wp2
          go_quiet ((go_at_call 28; exact Calls.quiet_of_same (C.out _)))
          go_wp2
          go_ret
          refine ⟨?_, by obtain ⟨q, e⟩ := HQ.out; rw [e]; exact ⟨_, World.drewN_drewN _ _ _⟩⟩
          rw [show namedB s t = false from decide_eq_false fun e => hxy (HST.out.1 (by rw [List.map_take, e])).2]
          rfl
      · obtain rfl : k = s.size := by omega
        clear hlt
        go_wp2
        go_ret
        refine ⟨?_, HQ.out⟩
        have e := HE.out
        rw [List.take_of_length_le (by rw [bytes_len]; omega), List.take_of_length_le (by rw [bytes_len]; omega)] at e
        rw [show namedB s t = true from decide_eq_true e]
        rfl
  · rw [namedB_size hz]
    have hzi : ¬ (s.size : Int) = (t.size : Int) := by omega
    have hzb : ((s.size : Int) != (t.size : Int)) = true := by rw [bne_iff_ne]; exact hzi
    go_enter Tryd.func26, Tryd.ntmps26
    go_wp2
    go_ret
    exact ⟨rfl, 0, rfl⟩
theorem name_up : ∀ i : Fin 48, (bytesOf i).map Lib.upperB = bytesOf i := by decide +kernel
theorem namedB_name {s : ByteArray} {k : Nat} (hk : k < 48) : namedB s (nameOf k) = alike (nameOf k) s := by
  have h := name_up ⟨k, hk⟩
  by_cases e : s.data.toList.map Lib.upperB = (nameOf k).data.toList
  · rw [show namedB s (nameOf k) = true from decide_eq_true e, (alike_iff _ _).2 (by rw [e]; exact h)]
  · rw [show namedB s (nameOf k) = false from decide_eq_false e]
    cases h2 : alike (nameOf k) s with
    | false => rfl
    | true => exact absurd (((alike_iff _ _).1 h2).symm.trans h) e
set_option maxHeartbeats 2000000 in
theorem opOf_same (s : ByteArray) (hs : s.size ≤ 1000) (w : World) (hn : NamesIs w) : Calls Tryd.prog 10 #[.string s] w fun e w' => e = .returned (.tuple #[.int .i64 (ofI s), .bool (ofB s)]) ∧ ∃ q, w' = w.drewN q := by
  have HNM := Lib.hid hn
  clear hn
  go_enter Tryd.func10, Tryd.ntmps10
  go_wp2
  go_loopg [5] 48 (fun g i wr => ∃ k : Nat, g = 48 - k ∧ k ≤ 48 ∧ i = .int .i64 k ∧ Hid (lastOp s k = none) ∧ Hid (∃ q, wr = w.drewN q))
  case atStart => exact ⟨0, rfl, Nat.zero_le _, rfl, rfl, 0, rfl⟩
  case round =>
    obtain ⟨k, rfl, hk, rfl, HL, HQ⟩ := hrel
    by_cases hlt : k < 48
    · have e1 : (k : Int) < 48 := by omega
      have C := Lib.hid (opName_same (k : Int) wr (by obtain ⟨q, e⟩ := HQ.out; rw [e]; exact HNM.out.mono (op_below_drewN _ _ _)))
      rw [nameI_nat hlt] at C
      have D := Lib.hid (named_any s (nameOf k) wr (by omega) (by have := nameOf_size hlt; omega))
      rw [namedB_name hlt] at D
      obtain ⟨nm, hnm⟩ : ∃ nm, nameOf k = nm := ⟨_, rfl⟩
      have HNK := Lib.hid hnm
      rw [hnm] at C D
      clear hnm
      by_cases ha : alike nm s = true
      · have HA := Lib.hid ha
        rw [ha] at D
        clear ha
        go_wp2_with fail
        refine C.out.mono ?_
        rintro e wz ⟨rfl, hwz⟩
        subst wz
        clear C
        go_wp2_with fail
        refine D.out.mono ?_
        rintro e w2 ⟨rfl, q2, rfl⟩
        clear D
        go_wp2
        go_ret2
        have h1 : ofN s = some k := ofN_of hlt (by rw [HNK.out]; exact HA.out)
        unfold ofI ofB
        rw [h1]
        exact ⟨rfl, by obtain ⟨q, e⟩ := HQ.out; rw [e]; exact ⟨_, World.drewN_drewN _ _ _⟩⟩
      · have HA := Lib.hid ha
        rw [show alike nm s = false by simpa using ha] at D
        clear ha
        go_wp2_with fail
        refine C.out.mono ?_
        rintro e wz ⟨rfl, hwz⟩
        subst wz
        clear C
        go_wp2_with fail
        refine D.out.mono ?_
        rintro e w2 ⟨rfl, q2, rfl⟩
        clear D
        go_wp2
        go_roundg (48 - (k + 1))
        case measure => omega
        case rel => exact ⟨k + 1, rfl, by omega, by go_num, Lib.hid (by rw [lastOp, if_neg (by rw [HNK.out]; exact HA.out)]; exact HL.out), by obtain ⟨q, e⟩ := HQ.out; rw [e]; exact ⟨_, World.drewN_drewN _ _ _⟩⟩
    · obtain rfl : k = 48 := by omega
      clear hlt
      go_wp2
      go_ret2
      have h1 : ofN s = none := HL.out
      unfold ofI ofB
      rw [h1]
      exact ⟨rfl, HQ.out⟩
theorem opOf_any (s : ByteArray) (hs : s.size ≤ 1000) (w : World) (hn : NamesIs w) : Calls Tryd.prog 10 #[.string s] w (Says (.tuple #[.int .i64 (ofI s), .bool (ofB s)]) w) :=
  (opOf_same s hs w hn).mono fun e w' ⟨h, q, hq⟩ => ⟨h, by rw [hq]; exact op_below_drewN _ _ _⟩
end Go.Proofs.YtlhamfiflmlepaaDoor
