
/- SourceCuts: the walk. -/
import Derived.Test.YtmbblnebkcekdaaSrcAlive
namespace Go.Proofs.Ytmbblnebkcekdaa.SourceCuts
open Go.RowKit Book Src
set_option linter.unusedSimpArgs false
set_option linter.unusedVariables false
theorem uS_size (t : ByteArray) (a : Nat) (c : UInt8) (ha : a ≤ t.size) : (uS t a c).size ≤ t.size := by
  unfold uS
  rw [ByteArray.size_extract]
  have := uTo_le ha c
  omega
theorem uAt_no (t : ByteArray) (a : Nat) (c : UInt8) (ha : a ≤ t.size) (hb : uB t a c = false) : uAt t a c = t.size := by
  have h1 : ¬ uTo t a c < t.size := of_decide_eq_false hb
  have h2 := uTo_le ha c
  unfold uAt; omega
set_option maxHeartbeats 8000000 in
set_option maxRecDepth 100000 in
theorem main (t : ByteArray) (N : Nat) (W : World) (ht : t.size ≤ 500) (hN : N ≤ 100) :
    Calls Try.prog 5 #[.string t, .int .i64 N] W (Yes W) := by
  have e1 : decide ((500 : Int) < (t.size : Int)) = false := decide_eq_false (by omega)
  have e2 : decide ((100 : Int) < (N : Int)) = false := decide_eq_false (by omega)
  have e3 : decide ((N : Int) < 0) = false := decide_eq_false (by omega)
  have HT := Lib.hid ht
  have C := Lib.hid (alive8 W)
  clear ht
  go_enter Try.func5, Try.ntmps5
  go_wp2_with fail
  refine C.out.mono ?_
  rintro e w1 ⟨rfl, hb⟩
  have HB1 := Lib.hid hb
  have C := Lib.hid (new_any t w1)
  clear hb e1 e2 e3
  go_wp2_with fail
  refine C.out.mono ?_
  rintro e w2 ⟨p, rfl, hA, hp, hb⟩
  have HP := Lib.hid (Nat.le_trans HB1.out.size hp)
  have HA2 := Lib.hid hA
  have HB2 := Lib.hid (HB1.out.trans (hb.mono HB1.out.size))
  clear hb hA hp C HB1
  go_wp2
  go_loopg [6] N (fun g i wr => ∃ (j a : Nat), g = N - j ∧ j ≤ N ∧ i = .int .i64 j ∧ Hid (At wr p t a) ∧ Hid (Below W.heap.size W wr))
  case atStart => exact ⟨0, 0, rfl, Nat.zero_le _, rfl, HA2, HB2⟩
  case round =>
    clear HA2 HB2
    obtain ⟨j, a, rfl, hj, rfl, HA, HB⟩ := hrel
    have hle := HA.out.le
    by_cases hlt : j < N
    · have e1 : (j : Int) < (N : Int) := by omega
      have C := Lib.hid (at_any HA.out)
      have D := Lib.hid (word_any HA.out (by have := HT.out; omega))
      obtain ⟨sb, hsb⟩ : ∃ x, wB t a = x := ⟨_, rfl⟩
      obtain ⟨sa, hsa⟩ : ∃ x, wAt t a = x := ⟨_, rfl⟩
      obtain ⟨sw, hsw⟩ : ∃ x, wS t a = x := ⟨_, rfl⟩
      have HBY := Lib.hid (show ∀ k (hk : k < sw.size), isBlank sw[k] = false by subst hsw; exact fun k hk => wS_byte hle hk)
      have HEM := Lib.hid (show (sb = true → sw ≠ ⟨#[]⟩) ∧ (sb = false → sw = ⟨#[]⟩) from ⟨fun h => by rw [← hsw]; exact wS_yes hle (by rw [hsb, h]), fun h => by rw [← hsw]; exact (wS_no hle (by rw [hsb, h])).1⟩)
      have hge : a ≤ sa := by rw [← hsa]; exact wAt_ge hle
      have hle2 : sa ≤ t.size := by rw [← hsa]; exact wAt_le
      have hsz : sw.size ≤ 500 := by have h1 := wS_size hle; have h2 := wTo_le hle; have h3 := HT.out; rw [← hsw]; omega
      rw [hsb, hsa, hsw] at D
      clear hsb hsa hsw
      go_wp2_with fail
      refine C.out.mono ?_
      rintro e wz ⟨rfl, hwz⟩
      subst wz
      clear C
      go_wp2_with fail
      refine D.out.mono ?_
      rintro e w3 ⟨rfl, hA, hs⟩
      have HA3 := Lib.hid hA
      have HB3 := Lib.hid (past HP.out HB.out hs)
      clear hA hs D HA HB
      have C1 := Lib.hid (fun n => at_any (HA3.out.below (sdrewN_below _ w3 n)))
      have C2 := Lib.hid (fun n => left_any (HA3.out.below (sdrewN_below _ w3 n)))
      have k0 : (0 : Int) ≤ (sa : Int) := by omega
      have k1 : (sa : Int) ≤ (t.size : Int) := by omega
      have d1 : decide ((sa : Int) < (a : Int)) = false := decide_eq_false (by omega)
      have d2 : decide ((t.size : Int) < (sa : Int)) = false := decide_eq_false (by omega)
      have d3 : decide (sa < a) = false := decide_eq_false (by omega)
      have d4 : decide (t.size < sa) = false := decide_eq_false (by omega)
      go_wp2_with fail
      go_quiet (first
        | (go_at_call 13; exact Calls.quiet_of_same (C1.out _))
        | (go_at_call 14; exact Calls.quiet_of (C2.out _)))
      have HA4 := Lib.hid (HA3.out.below (sdrewN_below w3.heap.size w3 nq))
      have HB4 := Lib.hid (HB3.out.trans (sdrewN_below W.heap.size w3 nq))
      obtain ⟨w4, hw4⟩ : ∃ w4, w3.drewN nq = w4 := ⟨_, rfl⟩
      rw [hw4] at HA4 HB4
      try rw [hw4]
      clear hw4 C1 C2 HA3 HB3 d1 d2
      try simp only [d3, d4, Bool.or_false]
      clear d3 d4
      go_wp2
      go_loopg [10] sw.size (fun g i wy => ∃ k : Nat, g = sw.size - k ∧ k ≤ sw.size ∧ i = .int .i64 k ∧ wy = w4)
      case atStart => exact ⟨0, rfl, Nat.zero_le _, rfl, rfl⟩
      case round =>
        obtain ⟨k, rfl, hk, rfl, rfl⟩ := hrel
        by_cases hlk : k < sw.size
        · have g0 : (0 : Int) ≤ (k : Int) := by omega
          have g1 : (k : Int) < (sw.size : Int) := by omega
          have hnb := HBY.out k hlk
          rw [blank_int] at hnb
          have g2 : ¬ (sw[k].toNat : Int) ≤ 32 := of_decide_eq_false hnb
          go_wp2
          go_roundg (sw.size - (k + 1))
          case measure => omega
          case rel => exact ⟨k + 1, rfl, by omega, by go_num, rfl⟩
        · obtain rfl : k = sw.size := by omega
          have g1 : ¬ (sw.size : Int) < (sw.size : Int) := by omega
          cases sb with
          | true =>
            have hne := HEM.out.1 rfl
            have q1 : (sw.toList == (⟨#[]⟩ : ByteArray).toList) = false := by
              rw [beq_eq_false_iff_ne]
              intro e
              rw [ByteArray.toList_eq, ByteArray.toList_eq] at e
              exact hne (ByteArray.ext (Array.toList_inj.1 e))
            have q2 : (sw.toList == ([] : List UInt8)) = false := by
              rw [beq_eq_false_iff_ne]
              intro e
              rw [ByteArray.toList_eq] at e
              exact hne (ByteArray.ext (Array.toList_inj.1 e))
            clear hne hlk
            go_wp2
            go_roundg (N - (j + 1))
            case measure => omega
            case rel => exact ⟨j + 1, sa, rfl, by omega, by go_num, HA4, HB4⟩
          | false =>
            obtain rfl := HEM.out.2 rfl
            clear hlk
            go_wp2
            go_roundg (N - (j + 1))
            case measure => omega
            case rel => exact ⟨j + 1, sa, rfl, by omega, by go_num, HA4, HB4⟩
    · obtain rfl : j = N := by omega
      have e1 : ¬ (j : Int) < (j : Int) := by omega
      have C := Lib.hid (show Calls Try.prog 11 #[.pointer (some ⟨p, 0, none⟩), .int .u8 0] wr _ from until_any HA.out 0 (by have := HT.out; omega))
      obtain ⟨sb, hsb⟩ : ∃ x, uB t a 0 = x := ⟨_, rfl⟩
      have hus := uS_size t a 0 hle
      obtain ⟨sw, hsw⟩ : ∃ x, uS t a 0 = x := ⟨_, rfl⟩
      have k1 : (sw.size : Int) ≤ (t.size : Int) := by rw [← hsw]; omega
      cases sb with
      | true =>
        rw [hsb, hsw] at C
        clear hsb hsw hlt hus
        go_wp2_with fail
        refine C.out.mono ?_
        rintro e w3 ⟨rfl, hA, hs⟩
        have HB3 := Lib.hid (past HP.out HB.out hs)
        clear hA hs C
        go_wp2
        go_ret
        exact ⟨rfl, HB3.out⟩
      | false =>
        rw [hsb, hsw, uAt_no t a 0 hle hsb] at C
        clear hsb hsw hlt hus
        go_wp2_with fail
        refine C.out.mono ?_
        rintro e w3 ⟨rfl, hA, hs⟩
        have HB3 := Lib.hid (past HP.out HB.out hs)
        have C1 := Lib.hid (left_any hA)
        rw [extract_same] at C1
        clear hA hs C
        go_wp2_with fail
        refine C1.out.mono ?_
        rintro e w4 ⟨rfl, q, hq⟩
        have HB4 := Lib.hid (show Below W.heap.size W w4 by rw [hq]; exact HB3.out.trans (sdrewN_below _ _ _))
        clear hq C1
        go_wp2
        go_ret
        exact ⟨rfl, HB4.out⟩
theorem early (t : ByteArray) (n : Int) (W : World) (h : 500 < t.size ∨ n < 0 ∨ 100 < n) : Calls Try.prog 5 #[.string t, .int .i64 n] W (Yes W) := by
  have C := Lib.hid (alive8 W)
  by_cases h1 : 500 < t.size
  · have e1 : decide ((500 : Int) < (t.size : Int)) = true := decide_eq_true (by omega)
    clear h h1
    go_enter Try.func5, Try.ntmps5
    go_wp2_with fail
    refine C.out.mono ?_
    rintro e w1 ⟨rfl, hb⟩
    have HB := Lib.hid hb
    clear hb C
    go_wp2
    go_ret
    exact ⟨rfl, HB.out⟩
  · have e1 : decide ((500 : Int) < (t.size : Int)) = false := decide_eq_false (by omega)
    rcases (by omega : n < 0 ∨ (¬ n < 0 ∧ 100 < n)) with h2 | ⟨h2, h3⟩
    all_goals
      try have e2 : decide (n < 0) = false := decide_eq_false h2
      clear h h1
      go_enter Try.func5, Try.ntmps5
      go_wp2_with fail
      refine C.out.mono ?_
      rintro e w1 ⟨rfl, hb⟩
      have HB := Lib.hid hb
      clear hb C
      go_wp2
      go_ret
      exact ⟨rfl, HB.out⟩
theorem walk (t : ByteArray) (n : Int) (W : World) : Calls Try.prog 5 #[.string t, .int .i64 n] W (Yes W) := by
  by_cases h : 500 < t.size ∨ n < 0 ∨ 100 < n
  · exact early t n W h
  · obtain ⟨N, rfl⟩ : ∃ N : Nat, n = (N : Int) := ⟨n.toNat, by omega⟩
    exact main t N W (by omega) (by omega)
end Go.Proofs.Ytmbblnebkcekdaa.SourceCuts
