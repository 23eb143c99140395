
/- Kept lists, grown. -/
import Derived.Test.YtpecingkoodmfaaGreatDoorBookInts
import Derived.Deep.RegionHeld3
import Derived.Deep.DrawnRows
namespace Go.Proofs.YtpecingkoodmfaaGreatDoor
open Go.RowKit Book
set_option linter.unusedSimpArgs false
set_option linter.unusedVariables false
theorem intMarks_add (i a m n : Nat) : intMarks i a (m + n) = intMarks i a m ++ intMarks i (a + m) n := by
  induction n with
  | zero => simp [intMarks]
  | succ n ih => rw [← Nat.add_assoc, intMarks_succ, ih, intMarks_succ, List.append_assoc, Nat.add_assoc]
theorem intMarks_one (i a n : Nat) : ∀ u ∈ intMarks i a n, u.oneCell' = true := by
  intro u hu
  simp only [intMarks, List.mem_map] at hu
  obtain ⟨j, _, rfl⟩ := hu
  rfl
set_option maxHeartbeats 2000000 in
theorem growInts_any (p B : Nat) (vS : Value) (ls : List (Value × List Value)) (w : World) (hp : p < B) (hB : B ≤ w.heap.size) (c0 : w.cell? ⟨p, 2, none⟩ = some vS) (hL : Lists w B 24 3 vS ls) (hf : ls.length ≤ 250) (hl : ∀ k ∈ ls, k.2.length ≤ 1000000) (hm : ∀ i k, ls[i]? = some k → k.2 = intMarks i 0 k.2.length) :
    Calls Tryz.prog 73 #[.pointer (some ⟨p, 0, none⟩)] w fun e w' => ∃ vO gs, e = .returned vO ∧ Gs w B 24 3 (fun j n => intMarks j 0 n) 2000000 vS ls ls.length vO gs w' := by
  obtain ⟨i0, q1, q2, q3, q4⟩ := info_parts Tryz.bkIntInfo
  have HI := Lib.hid (And.intro q1 (And.intro q2 (And.intro q3 q4)))
  clear q1 q2 q3 q4
  obtain ⟨i1, q1, q2, q3, q4⟩ := info_parts Tryz.bkIntSpineInfo
  have HJ := Lib.hid (And.intro q1 (And.intro q2 (And.intro q3 q4)))
  clear q1 q2 q3 q4
  obtain ⟨ao, cap, hv⟩ := hL.spine.slice
  rw [List.length_map] at hv
  obtain ⟨L, hn⟩ : ∃ n, ls.length = n := ⟨_, rfl⟩
  rw [hn] at hv hf
  rw [hn]
  subst hv
  have HL := Lib.hid hL
  have HN := Lib.hid hn
  have HM := Lib.hid (And.intro hl hm)
  have HC0 := Lib.hid c0
  have hpb := Lib.hid (fun h => Nat.lt_irrefl p (Nat.lt_of_lt_of_le hp (hL.lt p h).1) : p ∉ blocks ls)
  clear hL hn hl hm c0
  go_enter Tryz.func73, Tryz.ntmps73
  go_wp2
  go_loopg [3, 4] L (fun g o i wr => ∃ (j : Nat) (gs : List (Value × List Value)), g = L - j ∧ j ≤ L ∧ i = .int .i64 j ∧ Hid (Gs w B 24 3 (fun j n => intMarks j 0 n) 2000000 (.slice ao L cap) ls j o gs wr))
  case atStart => exact ⟨0, [], rfl, Nat.zero_le _, rfl, Gs.zero HL.out⟩
  case round =>
    obtain ⟨j, gs, rfl, hj, rfl, HG⟩ := hrel
    obtain ⟨wa, hwa⟩ : ∃ wa, wa = wr := ⟨_, rfl⟩
    subst hwa
    have c0 := HG.out.stir.cell hpb.out HC0.out
    have HW := Lib.hid (Nat.le_trans hB HG.out.stir.size)
    by_cases hlt : j < L
    · obtain ⟨⟨v, xs⟩, hk⟩ : ∃ k, ls[j]? = some k := ⟨_, List.getElem?_eq_getElem (by rw [HN.out]; exact hlt)⟩
      have ho := HG.out.old.list _ (List.mem_of_getElem? hk)
      obtain ⟨gS, cS, e1, hcS, _, _⟩ := HG.out.old.spine.row (by rw [List.length_map, HN.out]; omega)
      rw [List.length_map, HN.out] at e1
      simp only [Value.slice.injEq, true_and] at e1
      obtain ⟨rfl, rfl⟩ := e1
      have k1 := hcS j v (by rw [List.getElem?_map, hk]; rfl)
      obtain ⟨n, hn⟩ : ∃ n, xs.length = n := ⟨_, rfl⟩
      have hn6 : n ≤ 1000000 := by rw [← hn]; exact HM.out.1 _ (List.mem_of_getElem? hk)
      have hxs : xs = intMarks j 0 n := by rw [← hn]; exact HM.out.2 _ _ hk
      have hg0 := Grows.start ho
      dsimp only at hg0
      rw [show xs = intMarks j 0 (n + 0) from hxs] at hg0 hk
      have HK := Lib.hid hk
      have HX := Lib.hid hg0
      have hj0 : (0 : Int) ≤ (j : Int) := Int.natCast_nonneg _
      have hj1 : (j : Int) < (L : Int) := by omega
      clear ho hk hn hcS hg0 hxs
      go_wp2
      go_loopg [5, 6] 12 (fun g l k wx => ∃ q : Nat, g = 12 - q ∧ q ≤ 12 ∧ k = .int .i64 q ∧ Hid (Grows wa B 3 v (intMarks j 0 n) wx l (intMarks j 0 (n + q))))
      case atStart => exact ⟨0, rfl, Nat.zero_le _, rfl, HX.out⟩
      case round =>
        obtain ⟨q, rfl, hq, rfl, HZ⟩ := hrel
        obtain ⟨lo, lc, hlv⟩ := HZ.out.long.slice
        rw [intMarks_length] at hlv
        subst hlv
        obtain ⟨m, hm⟩ : ∃ m, n + q = m := ⟨_, rfl⟩
        rw [hm] at HZ
        rw [hm]
        have HMQ := Lib.hid hm
        have hm6 : m ≤ 1000012 := by omega
        clear hm
        by_cases hlq : q < 12
        · have C := Lib.hid (markInts_any j m 1 (by omega) (by omega) (by omega) wr)
          go_wp2_with fail
          refine C.out.mono ?_
          rintro e w1 ⟨f, rfl, hf, hb⟩
          obtain ⟨fg, fc, hfv, hfc, _, _⟩ := hf.row (by rw [intMarks_length]; omega)
          rw [intMarks_length] at hfv
          subst hfv
          have HF := Lib.hid hfc
          have HZ1 := Lib.hid (HZ.out.below hb)
          have HB := Lib.hid hb
          clear hf hfc hb
          go_wp2_with (at_builtin; refine wpList_append_two _ rfl _ _ 24 rfl B 3 i0 (.int .i64 0) 8 Tryz.underlying24 HI.out.1 HI.out.2.1 HI.out.2.2.1 HI.out.2.2.2 rfl _ _ rfl HZ1.out.long ⟨fg, 0, none⟩ 1 fc (intMarks j m 1) (intMarks_length _ _ _) rfl ?c1 (intMarks_one _ _ _) ?c2 ?c3 ?c4 ?c5 ?_)
          case c1 => intro k u hu; rw [add_row]; exact HF.out k u hu
          case c2 => rw [intMarks_length]; omega
          case c3 => rw [intMarks_length, intMarks_length]; unfold maxLen; omega
          case c4 => rw [intMarks_length, intMarks_length]; omega
          case c5 => exact Nat.le_trans HW.out HZ1.out.stir.size
          intro v' w2 hO2 hS2 hT hN
          have hG := HZ1.out.append hO2 hS2 hT hN
          have hadd : intMarks j 0 m ++ intMarks j m 1 = intMarks j 0 (n + (q + 1)) := by rw [← Nat.add_assoc, HMQ.out, intMarks_add, Nat.zero_add]
          rw [hadd] at hG
          have HG2 := Lib.hid hG
          clear hO2 hS2 hT hN hG hadd
          go_wp2
          go_roundg (12 - (q + 1))
          case measure => omega
          case rel => exact ⟨q + 1, rfl, by omega, by go_num, HG2⟩
        · obtain rfl : q = 12 := by omega
          have C := Lib.hid (markInts_any j m 60 (by omega) (by omega) (by omega) wr)
          go_wp2_with fail
          refine C.out.mono ?_
          rintro e w1 ⟨f, rfl, hf, hb⟩
          obtain ⟨fg, fc, hfv, hfc, _, _⟩ := hf.row (by rw [intMarks_length]; omega)
          rw [intMarks_length] at hfv
          subst hfv
          have HF := Lib.hid hfc
          have HZ1 := Lib.hid (HZ.out.below hb)
          clear hf hfc hb
          go_wp2_with (at_builtin; refine wpList_append_two _ rfl _ _ 24 rfl B 3 i0 (.int .i64 0) 8 Tryz.underlying24 HI.out.1 HI.out.2.1 HI.out.2.2.1 HI.out.2.2.2 rfl _ _ rfl HZ1.out.long ⟨fg, 0, none⟩ 60 fc (intMarks j m 60) (intMarks_length _ _ _) rfl ?c1 (intMarks_one _ _ _) ?c2 ?c3 ?c4 ?c5 ?_)
          case c1 => intro k u hu; rw [add_row]; exact HF.out k u hu
          case c2 => rw [intMarks_length]; omega
          case c3 => rw [intMarks_length, intMarks_length]; unfold maxLen; omega
          case c4 => rw [intMarks_length, intMarks_length]; omega
          case c5 => exact Nat.le_trans HW.out HZ1.out.stir.size
          intro v' w2 hO2 hS2 hT hN
          have hG := HZ1.out.append hO2 hS2 hT hN
          have hadd : intMarks j 0 m ++ intMarks j m 60 = intMarks j 0 (m + 60) := by rw [intMarks_add, Nat.zero_add]
          rw [hadd] at hG
          have hG := hG.below ((Below.refl w2.heap.size w2).alloc (Nat.le_refl _) (.cells #[v'] 24))
          obtain ⟨no, nc, hnv⟩ := hG.long.slice
          rw [intMarks_length] at hnv
          subst hnv
          have HG2 := Lib.hid hG
          have HO3 := Lib.hid (HG.out.out_at HK.out hG)
          have HLN := Lib.hid (HG.out.len)
          have HW2 := Lib.hid (HG.out.stir.size)
          clear hO2 hS2 hT hN hG hadd
          go_wp2_with (at_builtin; refine wpList_append_two _ rfl _ _ 34 rfl w.heap.size 24 i1 (.slice none 0 0) 24 Tryz.underlying34 HJ.out.1 HJ.out.2.1 HJ.out.2.2.1 HJ.out.2.2.2 rfl _ _ rfl HO3.out ⟨w2.heap.size, 0, none⟩ 1 1 [.slice no (m + 60) nc] rfl rfl ?d1 ?d2 (Nat.zero_lt_succ 0) ?d3 ?d4 ?d5 ?_)
          case d1 => intro j u hj; rcases j with _ | j <;> simp at hj; subst hj; simp [Addr.add]
          case d2 => intro u hu; simp at hu; subst hu; rfl
          case d3 => rw [List.length_map, HLN.out]; show j + 1 ≤ maxLen; unfold maxLen; omega
          case d4 => rw [List.length_map, HLN.out]; show (j + 1) * 24 ≤ _; omega
          case d5 => exact Nat.le_trans HW2.out HG2.out.stir.size
          intro v' w3 hO3 _ hT3 _
          have HG3 := Lib.hid (HG.out.step (by decide) HK.out HG2.out (by rw [intMarks_length]) (by rw [intMarks_length]; omega) hO3 hT3)
          clear hO3 hT3
          go_wp2
          go_roundg (L - (j + 1))
          case measure => omega
          case rel => exact ⟨j + 1, _, rfl, by omega, by go_num, HG3⟩
    · obtain rfl : j = L := by omega
      go_wp2
      go_ret
      exact ⟨_, gs, rfl, HG.out⟩
end Go.Proofs.YtpecingkoodmfaaGreatDoor
