
/- The document's own answers on texts: the next word; up to a byte. -/
import Derived.Test.YtmbblnebkcekdaaRows
import Derived.Test.YtmbblnebkcekdaaSrcPlain
import Derived.ProofKit
import Derived.Lib.Hide
import Derived.Deep.LoopGhost
import Derived.OwnWalk
namespace Go.Proofs.Ytmbblnebkcekdaa.Src
open Go.RowKit
set_option linter.unusedSimpArgs false
set_option linter.unusedVariables false
theorem blank_int {c : UInt8} : isBlank c = decide ((c.toNat : Int) ≤ 32) := by
  unfold isBlank
  by_cases h : c.toNat ≤ 32
  · rw [decide_eq_true h, decide_eq_true (by omega)]
  · rw [decide_eq_false h, decide_eq_false (by omega)]
theorem extract_same (t : ByteArray) (a : Nat) : t.extract a a = ⟨#[]⟩ := by
  apply ByteArray.ext
  refine Array.eq_empty_of_size_eq_zero ?_
  have h : (t.extract a a).size = 0 := by rw [ByteArray.size_extract]; omega
  exact h
set_option maxHeartbeats 4000000 in
set_option maxRecDepth 100000 in
theorem refNext_any (t : ByteArray) (a : Nat) (ha : a ≤ t.size) (ht : t.size ≤ 1000000) (w : World) :
    Calls Try.prog 10 #[.string t, .int .i64 a] w fun e w' => e = .returned (.tuple #[.string (wS t a), .int .i64 (wAt t a), .bool (wB t a)]) ∧ w' = w := by
  go_enter Try.func10, Try.ntmps10
  go_wp2
  go_loopg [1] (t.size - a) (fun g i wr => ∃ k : Nat, g = t.size - k ∧ k ≤ t.size ∧ i = .int .i64 k ∧ Hid (a ≤ k ∧ firstFrom t noBlank a = firstFrom t noBlank k) ∧ wr = w)
  case atStart => exact ⟨a, rfl, ha, rfl, ⟨Nat.le_refl _, rfl⟩, rfl⟩
  case round =>
    obtain ⟨k, rfl, hk, rfl, HF, rfl⟩ := hrel
    by_cases hlt : k < t.size
    · have e0 : (0 : Int) ≤ (k : Int) := by omega
      have e1 : (k : Int) < (t.size : Int) := by omega
      by_cases hb : (t[k].toNat : Int) ≤ 32
      · have HF1 := Lib.hid (show a ≤ k + 1 ∧ firstFrom t noBlank a = firstFrom t noBlank (k + 1) from ⟨by have := HF.out.1; omega, by
          rw [HF.out.2]
          exact ff_step hlt (by unfold noBlank; rw [blank_int, decide_eq_true hb]; rfl)⟩)
        go_wp2
        go_roundg (t.size - (k + 1))
        case measure => omega
        case rel => exact ⟨k + 1, rfl, by omega, by go_num, HF1, rfl⟩
      · have HFR := Lib.hid (show wFrom t a = k by
          unfold wFrom
          rw [HF.out.2]
          exact ff_hit hlt (by unfold noBlank; rw [blank_int, decide_eq_false hb]; rfl))
        have HWB := Lib.hid (show wB t a = true by unfold wB; rw [HFR.out]; exact decide_eq_true hlt)
        have e2 : ¬ (t.size : Int) ≤ (k : Int) := by omega
        clear HF
        go_wp2
        go_loopg [1] (t.size - k) (fun g i wy => ∃ m : Nat, g = t.size - m ∧ k ≤ m ∧ m ≤ t.size ∧ i = .int .i64 m ∧ Hid (firstFrom t isBlank k = firstFrom t isBlank m) ∧ wy = wr)
        case atStart => exact ⟨k, rfl, Nat.le_refl _, hk, rfl, rfl, rfl⟩
        case round =>
          obtain ⟨m, rfl, hkm, hm, rfl, HG, rfl⟩ := hrel
          by_cases hlm : m < t.size
          · have g0 : (0 : Int) ≤ (m : Int) := by omega
            have g1 : (m : Int) < (t.size : Int) := by omega
            by_cases hb2 : (t[m].toNat : Int) ≤ 32
            · have HT := Lib.hid (show wTo t a = m by
                unfold wTo
                rw [HFR.out, HG.out]
                exact ff_hit hlm (by rw [blank_int, decide_eq_true hb2]))
              have HAT := Lib.hid (show wAt t a = m + 1 by unfold wAt; rw [HT.out]; omega)
              have g2 : (m : Int) + 1 ≤ (t.size : Int) := by omega
              have g3 : (k : Int) ≤ (m : Int) := by omega
              have g4 : (m : Int) ≤ (t.size : Int) := by omega
              have hb3 : ¬ 32 < (t[m].toNat : Int) := by omega
              clear HG
              go_wp2
              refine bodyPost_ret (results_tmp3 rfl _ _ _) rfl ?_
              refine ⟨?_, rfl⟩
              rw [HWB.out, HAT.out]
              unfold wS
              rw [HFR.out, HT.out]
              rfl
            · have HG1 := Lib.hid (show firstFrom t isBlank k = firstFrom t isBlank (m + 1) by
                rw [HG.out]
                exact ff_step hlm (by rw [blank_int, decide_eq_false hb2]))
              have hb3 : 32 < (t[m].toNat : Int) := by omega
              go_wp2
              go_roundg (t.size - (m + 1))
              case measure => omega
              case rel => exact ⟨m + 1, rfl, by omega, by omega, by go_num, HG1, rfl⟩
          · obtain rfl : m = t.size := by omega
            have HT := Lib.hid (show wTo t a = t.size by
              unfold wTo
              rw [HFR.out, HG.out]
              exact ff_end (Nat.le_refl _))
            have HAT := Lib.hid (show wAt t a = t.size by unfold wAt; rw [HT.out]; omega)
            have g2 : ¬ (t.size : Int) + 1 ≤ (t.size : Int) := by omega
            have g3 : (k : Int) ≤ (t.size : Int) := by omega
            clear HG hlm
            go_wp2
            refine bodyPost_ret (results_tmp3 rfl _ _ _) rfl ?_
            refine ⟨?_, rfl⟩
            rw [HWB.out, HAT.out]
            unfold wS
            rw [HFR.out, HT.out]
            rfl
    · obtain rfl : k = t.size := by omega
      have HFR := Lib.hid (show wFrom t a = t.size by
        unfold wFrom
        rw [HF.out.2]
        exact ff_end (Nat.le_refl _))
      have HWB := Lib.hid (show wB t a = false by unfold wB; rw [HFR.out]; exact decide_eq_false (Nat.lt_irrefl _))
      have HNO := Lib.hid (wS_no ha HWB.out)
      clear HF hlt
      go_wp2
      refine bodyPost_ret (results_tmp3 rfl _ _ _) rfl ?_
      refine ⟨?_, rfl⟩
      rw [HWB.out, HNO.out.1, HNO.out.2]
      rfl
set_option maxHeartbeats 4000000 in
set_option maxRecDepth 100000 in
theorem refUntil_any (t : ByteArray) (a : Nat) (c : UInt8) (ha : a ≤ t.size) (ht : t.size ≤ 1000000) (w : World) :
    Calls Try.prog 12 #[.string t, .int .i64 a, .int .u8 (c.toNat : Int)] w fun e w' => e = .returned (.tuple #[.string (uS t a c), .int .i64 (uAt t a c), .bool (uB t a c)]) ∧ w' = w := by
  go_enter Try.func12, Try.ntmps12
  go_wp2
  go_loopg [9] (t.size - a) (fun g i wr => ∃ k : Nat, g = t.size - k ∧ a ≤ k ∧ k ≤ t.size ∧ i = .int .i64 k ∧ Hid (uTo t a c = firstFrom t (fun x => x == c) k) ∧ wr = w)
  case atStart => exact ⟨a, rfl, Nat.le_refl _, ha, rfl, rfl, rfl⟩
  case round =>
    obtain ⟨k, rfl, hak, hk, rfl, HF, rfl⟩ := hrel
    have e3 : (0 : Int) ≤ (a : Int) := by omega
    by_cases hlt : k < t.size
    · have e0 : (0 : Int) ≤ (k : Int) := by omega
      have e1 : (k : Int) < (t.size : Int) := by omega
      by_cases hb : t[k] = c
      · have hbi : ((t[k].toNat : Int) == (c.toNat : Int)) = true := by rw [hb]; exact beq_self_eq_true _
        have HT := Lib.hid (show uTo t a c = k by rw [HF.out]; exact ff_hit hlt (by rw [hb]; exact beq_self_eq_true c))
        have HUB := Lib.hid (show uB t a c = true by unfold uB; rw [HT.out]; exact decide_eq_true hlt)
        have HAT := Lib.hid (show uAt t a c = k + 1 by unfold uAt; rw [HT.out]; omega)
        have g3 : (a : Int) ≤ (k : Int) := by omega
        have g4 : (k : Int) ≤ (t.size : Int) := by omega
        clear hb HF
        go_wp2
        refine bodyPost_ret (results_tmp3 rfl _ _ _) rfl ?_
        refine ⟨?_, rfl⟩
        rw [HUB.out, HAT.out]
        unfold uS
        rw [HT.out]
        rfl
      · have hbi : ((t[k].toNat : Int) == (c.toNat : Int)) = false := by
          rw [beq_eq_false_iff_ne]; intro e; exact hb (UInt8.toNat_inj.1 (by omega))
        have HF1 := Lib.hid (show uTo t a c = firstFrom t (fun x => x == c) (k + 1) by
          rw [HF.out]
          exact ff_step hlt (beq_eq_false_iff_ne.2 hb))
        clear hb
        go_wp2
        go_roundg (t.size - (k + 1))
        case measure => omega
        case rel => exact ⟨k + 1, rfl, by omega, by omega, by go_num, HF1, rfl⟩
    · obtain rfl : k = t.size := by omega
      have HT := Lib.hid (show uTo t a c = t.size by rw [HF.out]; exact ff_end (Nat.le_refl _))
      have HUB := Lib.hid (show uB t a c = false by unfold uB; rw [HT.out]; exact decide_eq_false (Nat.lt_irrefl _))
      have HAT := Lib.hid (show uAt t a c = t.size by unfold uAt; rw [HT.out]; omega)
      have g3 : (a : Int) ≤ (t.size : Int) := by omega
      clear HF hlt
      go_wp2
      refine bodyPost_ret (results_tmp3 rfl _ _ _) rfl ?_
      refine ⟨?_, rfl⟩
      rw [HUB.out, HAT.out]
      unfold uS
      rw [HT.out]
      rfl
end Go.Proofs.Ytmbblnebkcekdaa.Src
