
/- Marks put into kept lists. -/
import Derived.Test.YtpecingkoodmfaaGreatDoorBookInts
import Derived.Deep.RegionHeld3
import Derived.Deep.DrawnRows
namespace Go.Proofs.YtpecingkoodmfaaGreatDoor
open Go.RowKit Book
set_option linter.unusedSimpArgs false
set_option linter.unusedVariables false
set_option maxHeartbeats 2000000 in
theorem putInts_any (p B : Nat) (vS : Value) (ls : List (Value × List Value)) (w : World) (hp : p < B) (c0 : w.cell? ⟨p, 2, none⟩ = some vS) (hL : Lists w B 24 3 vS ls) (hf : ls.length ≤ 250) (hl : ∀ k ∈ ls, k.2.length ≤ 1000000) :
    Calls Tryz.prog 68 #[.pointer (some ⟨p, 0, none⟩)] w fun e w' => e = .returned (.tuple #[]) ∧ ∃ cur, Done (fun j n => intMarks j 0 n) ls ls.length cur ∧ Lists w' B 24 3 vS cur ∧ Stirred w w' (blocks ls) := by
  obtain ⟨ao, cap, hv⟩ := hL.spine.slice
  rw [List.length_map] at hv
  obtain ⟨L, hn⟩ : ∃ n, ls.length = n := ⟨_, rfl⟩
  rw [hn] at hv hf
  rw [hn]
  subst hv
  have HL := Lib.hid hL
  have HN := Lib.hid hn
  have HM := Lib.hid hl
  have HC0 := Lib.hid c0
  have hpb := Lib.hid (fun h => Nat.lt_irrefl p (Nat.lt_of_lt_of_le hp (hL.lt p h).1) : p ∉ blocks ls)
  clear hL hn hl c0
  go_enter Tryz.func68, Tryz.ntmps68
  go_wp2
  go_loopg [2] L (fun g i wr => ∃ (j : Nat) (cur : List (Value × List Value)), g = L - j ∧ j ≤ L ∧ i = .int .i64 j ∧ Hid (Done (fun j n => intMarks j 0 n) ls j cur) ∧ Hid (Lists wr B 24 3 (.slice ao L cap) cur) ∧ Hid (Stirred w wr (blocks ls)))
  case atStart => exact ⟨0, ls, rfl, Nat.zero_le _, rfl, Done.zero _ _, HL.out, Stirred.refl _ _⟩
  case round =>
    obtain ⟨j, cur, rfl, hj, rfl, HD, HK, HT⟩ := hrel
    have c0 := HT.out.cell hpb.out HC0.out
    by_cases hlt : j < L
    · obtain ⟨⟨v, xs⟩, hk⟩ : ∃ k, ls[j]? = some k := ⟨_, List.getElem?_eq_getElem (by rw [HN.out]; exact hlt)⟩
      have hk' := HD.out.rest j _ (Nat.le_refl _) hk
      have ho := HK.out.list _ (List.mem_of_getElem? hk')
      obtain ⟨gS, cS, e1, hcS, _, _⟩ := HK.out.spine.row (by rw [List.length_map, HD.out.len, HN.out]; omega)
      rw [List.length_map, HD.out.len, HN.out] at e1
      simp only [Value.slice.injEq, true_and] at e1
      obtain ⟨rfl, rfl⟩ := e1
      have k1 := hcS j v (by rw [List.getElem?_map, hk']; rfl)
      obtain ⟨n, hn⟩ : ∃ n, xs.length = n := ⟨_, rfl⟩
      have hn6 : n ≤ 1000000 := by rw [← hn]; exact HM.out _ (List.mem_of_getElem? hk)
      obtain ⟨bo, bc, hv⟩ := ho.slice
      dsimp only at ho hv
      rw [hn] at hv
      subst hv
      have HO := Lib.hid ho
      have HK1 := Lib.hid hk
      have HK2 := Lib.hid hk'
      have HXN := Lib.hid hn
      have hj0 : (0 : Int) ≤ (j : Int) := Int.natCast_nonneg _
      have hj1 : (j : Int) < (L : Int) := by omega
      have C := Lib.hid (markInts_any j 0 n (by omega) (by omega) (by omega) wr)
      clear ho hk hk' hn hcS
      go_wp2_with fail
      refine C.out.mono ?_
      rintro e w1 ⟨m, rfl, hm, hb⟩
      obtain ⟨mo, mc, hmv⟩ := hm.slice
      rw [intMarks_length] at hmv
      subst hmv
      have HMK := Lib.hid hm
      have HB := Lib.hid hb
      have HO1 := Lib.hid (HO.out.below hb)
      have HK3 := Lib.hid (HK.out.below hb)
      have HT1 := Lib.hid (HT.out.trans (Stirred.of_below hb []) (fun _ h => by cases h))
      have c01 := HT1.out.cell hpb.out HC0.out
      have hbw := Lib.hid (fun k hk => (HO.out.block k hk).2.1)
      have HS1 := Lib.hid ((Stirred.of_below HB.out []).cell (List.not_mem_nil) k1)
      clear hm hb k1 c0
      go_wp2
      go_loopg [4] n (fun g k wx => ∃ q : Nat, g = n - q ∧ q ≤ n ∧ k = .int .i64 q ∧ Hid (Owns wx B 3 (.slice bo n bc) ((intMarks j 0 n).take q ++ xs.drop q)) ∧ Hid (Stirred w1 wx (blk (.slice bo n bc)).toList))
      case atStart => exact ⟨0, rfl, Nat.zero_le _, rfl, HO1.out, Stirred.refl _ _⟩
      case round =>
        obtain ⟨q, rfl, hq, rfl, HX, HY⟩ := hrel
        by_cases hlq : q < n
        · have hmk : (intMarks j 0 n)[q]? = some (.int .i64 (markI j (0 + q))) := by simp [intMarks, hlq]
          obtain ⟨s, hs⟩ : ∃ s, markI j (0 + q) = s := ⟨_, rfl⟩
          rw [hs] at hmk
          have hxl : ((intMarks j 0 n).take q ++ xs.drop q).length = n := by rw [List.length_append, List.length_take, List.length_drop, intMarks_length, HXN.out]; omega
          obtain ⟨gv, cv, e1, hcv, hfv, _⟩ := HX.out.row (by omega)
          rw [hxl] at e1
          simp only [Value.slice.injEq, true_and] at e1
          obtain ⟨rfl, rfl⟩ := e1
          have hbv := HX.out.capAt (by omega)
          have hy := HY.out
          rw [hbv] at hy
          obtain ⟨gm, cm, e2, hcm, _, _⟩ := HMK.out.row (by rw [intMarks_length]; omega)
          rw [intMarks_length] at e2
          simp only [Value.slice.injEq, true_and] at e2
          obtain ⟨rfl, rfl⟩ := e2
          have n1 : gm ≠ gv := by have h1 := (HMK.out.block gm (HMK.out.capAt (by rw [intMarks_length]; omega))).1; have h2 := hbw.out gv hbv; omega
          have n2 : gS ≠ gv := fun e => HK.out.spine_apart (by decide) gS (HK.out.spine.capAt (by rw [List.length_map, HD.out.len, HN.out]; omega)) (by rw [e]; exact mem_blocks (List.mem_of_getElem? HK2.out) hbv)
          have n3 : p ≠ gv := by have h1 := (HO.out.block gv hbv).1; omega
          have km := hy.cell (show gm ∉ [gv] by simpa using n1) (hcm q _ hmk)
          have k1 := hy.cell (show gS ∉ [gv] by simpa using n2) (HS1.out)
          have c0 := hy.cell (show p ∉ [gv] by simpa using n3) c01
          obtain ⟨old, hold⟩ : ∃ old, ((intMarks j 0 n).take q ++ xs.drop q)[q]? = some old := ⟨_, List.getElem?_eq_getElem (by omega)⟩
          have ko := hcv q old hold
          have kf := hfv q
          have HMX := Lib.hid hmk
          have hq0 : (0 : Int) ≤ (q : Int) := Int.natCast_nonneg _
          have hq1 : (q : Int) < (n : Int) := by omega
          have F1 := Lib.hid ((Stirred.setCell _ ⟨gv, q, none⟩ (.int .i64 s)).cell (show p ∉ [gv] by simpa using n3) c0)
          have F2 := Lib.hid ((Stirred.setCell _ ⟨gv, q, none⟩ (.int .i64 s)).cell (show gS ∉ [gv] by simpa using n2) k1)
          have F3 := Lib.hid ((Stirred.setCell _ ⟨gv, q, none⟩ (.int .i64 s)).cell (show gm ∉ [gv] by simpa using n1) km)
          have hx2 := (HX.out.stored q (.int .i64 s)).touch (Stirred.drew _ []) (fun _ _ => List.not_mem_nil)
          rw [mix_set hmk (by rw [HXN.out, intMarks_length])] at hx2
          have HX2 := Lib.hid hx2
          have HY2 := Lib.hid ((HY.out.trans (Stirred.setCell _ ⟨gv, q, none⟩ (.int .i64 s)) (fun _ h => .inl (by rw [hbv]; exact h))).trans (Stirred.drew _ []) (fun _ h => by cases h))
          clear hmk hs hxl hx2 hcv hfv hcm hold hy hbv
          go_wp2_with fail
          go_region_held3 (fun w' => w'.cell? ⟨p, 2, none⟩ = some (.slice (some ⟨gS, 0, none⟩) L cap) ∧ w'.cell? ⟨gS, j, none⟩ = some (.slice (some ⟨gv, 0, none⟩) n bc) ∧ w'.cell? ⟨gm, q, none⟩ = some (.int .i64 s)) (first | (go_keep; done) | exact ⟨F1.out, F2.out, F3.out⟩) (fail)
          all_goals go_wp2
          go_roundg (n - (q + 1))
          case measure => omega
          case rel => exact ⟨q + 1, rfl, by omega, by go_num, HX2, HY2⟩
        · obtain rfl : q = n := by omega
          go_wp2
          go_roundg (L - (j + 1))
          case measure => omega
          case rel =>
            have hx : (intMarks j 0 q).take q ++ xs.drop q = intMarks j 0 q := by
              rw [List.take_of_length_le (by rw [intMarks_length]; omega), List.drop_eq_nil_of_le (by rw [HXN.out]; omega), List.append_nil]
            have hset := HK3.out.set (by decide) HK2.out HY.out (by have h1 := HX.out; rw [hx] at h1; exact h1)
            have hdone := HD.out.succ HK1.out
            rw [HXN.out] at hdone
            exact ⟨j + 1, _, rfl, by omega, by go_num, hdone, hset, HT1.out.trans HY.out (fun k hk => .inl (mem_blocks (List.mem_of_getElem? HK1.out) (by simpa using hk)))⟩
    · obtain rfl : j = L := by omega
      go_wp2
      go_end0
      exact ⟨rfl, cur, HD.out, HK.out, HT.out⟩
end Go.Proofs.YtpecingkoodmfaaGreatDoor
