
/- Do lists bear their marks? -/
import Derived.Test.YtcpdhfigaoaohaaDoorBookInts
import Derived.Deep.RegionHeld3
import Derived.Deep.DrawnRows
namespace Go.Proofs.YtcpdhfigaoaohaaDoor
open Go.RowKit Book
set_option linter.unusedSimpArgs false
set_option linter.unusedVariables false
theorem intMarks_eq (i a n : Nat) : intMarks i a n = ((List.range n).map fun j => markI i (a + j)).map (.int .i64) := by simp [intMarks]
set_option maxHeartbeats 2000000 in
theorem markedInts_any (B : Nat) (v : Value) (ls : List (Value × List Value)) (w : World) (hs : Owns w B 22 v (ls.map (·.1))) (hl : ∀ k ∈ ls, Owns w B 3 k.1 k.2) (hf : ls.length ≤ 250) (hm : ∀ i k, ls[i]? = some k → k.2 = intMarks i 0 k.2.length ∧ k.2.length ≤ 2000000) :
    Calls Tryd.prog 57 #[v] w fun e w' => e = .returned (.bool true) ∧ Below w.heap.size w w' := by
  obtain ⟨ao, cap, hv⟩ := hs.slice
  rw [List.length_map] at hv
  obtain ⟨L, hn⟩ : ∃ n, ls.length = n := ⟨_, rfl⟩
  rw [hn] at hv hf
  subst hv
  have HS := Lib.hid hs
  have HL := Lib.hid hl
  have HN := Lib.hid hn
  have HM := Lib.hid hm
  clear hs hl hn hm
  go_enter Tryd.func57, Tryd.ntmps57
  go_wp2
  go_loopg [3] L (fun g i wr => ∃ j : Nat, g = L - j ∧ j ≤ L ∧ i = .int .i64 j ∧ Hid (Below w.heap.size w wr))
  case atStart => exact ⟨0, rfl, Nat.zero_le _, rfl, Below.refl _ _⟩
  case round =>
    obtain ⟨j, rfl, hj, rfl, HB⟩ := hrel
    by_cases hlt : j < L
    · obtain ⟨⟨v, xs⟩, hk⟩ : ∃ k, ls[j]? = some k := ⟨_, List.getElem?_eq_getElem (by rw [HN.out]; exact hlt)⟩
      have ho := (HL.out _ (List.mem_of_getElem? hk)).below HB.out
      obtain ⟨gS, cS, e1, hcS, _, _⟩ := HS.out.row (by rw [List.length_map, HN.out]; omega)
      rw [List.length_map, HN.out] at e1
      simp only [Value.slice.injEq, true_and] at e1
      obtain ⟨rfl, rfl⟩ := e1
      have k0 := hcS j v (by rw [List.getElem?_map, hk]; rfl)
      have k1 := (Stirred.of_below HB.out []).cell (List.not_mem_nil) k0
      obtain ⟨n, hn⟩ : ∃ n, xs.length = n := ⟨_, rfl⟩
      have hxs := (HM.out _ _ hk).1
      have hn6 := (HM.out _ _ hk).2
      dsimp only at hxs hn6 ho
      rw [hn] at hxs hn6
      subst hxs
      obtain ⟨bo, bc, hbv⟩ := ho.slice
      rw [hn] at hbv
      subst hbv
      have HO := Lib.hid ho
      have hj0 : (0 : Int) ≤ (j : Int) := Int.natCast_nonneg _
      have hj1 : (j : Int) < (L : Int) := by omega
      have C := fun w => Lib.hid (markInts_any j 0 n (by omega) (by omega) (by omega) w)
      clear ho hk hn hcS k0
      go_wp2_with fail
      go_region_held3 (fun w' => w'.cell? ⟨gS, j, none⟩ = some (.slice bo n bc) ∧ Hid (Below wr.heap.size wr w'))
        (first
          | exact ⟨(Stirred.of_below HB2.out []).cell (List.not_mem_nil) k1, HB2⟩
          | exact ⟨(Stirred.of_below HB1.out []).cell (List.not_mem_nil) k1, HB1⟩
          | exact ⟨k1, (Below.refl wr.heap.size wr).drew⟩)
        (first
          | (go_at_call 75; refine (C _).out.mono ?_; rintro e w1 ⟨f, rfl, hf, hb⟩; have HB1 := Lib.hid ((Below.refl wr.heap.size wr).drew.trans hb); have HF := Lib.hid hf; clear hf hb)
          | (go_at_call 18; have hf := HF.out; have ho := HO.out.below HB1.out; rw [intMarks_eq] at hf ho; refine (sameInts_any _ _ _ _ _ _ ho hf (by simp; omega)).mono ?_; clear hf ho; rintro e w2 ⟨rfl, q, hq⟩; have HB2 := Lib.hid (show Below wr.heap.size wr w2 by rw [hq]; exact HB1.out.trans (bk_below_drewN _ _ _)); clear hq))
      all_goals go_wp2
      go_roundg (L - (j + 1))
      case measure => omega
      case rel => exact ⟨j + 1, rfl, by omega, by go_num, HB.out.trans (HB2.out.mono HB.out.size)⟩
    · obtain rfl : j = L := by omega
      go_wp2
      go_ret
      exact ⟨rfl, HB.out⟩
end Go.Proofs.YtcpdhfigaoaohaaDoor
