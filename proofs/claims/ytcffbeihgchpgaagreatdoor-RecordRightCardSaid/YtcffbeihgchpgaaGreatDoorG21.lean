/- The document's own machine (chapter 9): a machine that has done nothing. -/
import Derived.Test.YtcffbeihgchpgaaGreatDoorG20
import Derived.Deep.LoopGhost
import Derived.IntWalk
namespace Go.Proofs.YtcffbeihgchpgaaGreatDoor.Inn
open Go.RowKit Book Mem Mach
set_option linter.unusedVariables false
set_option linter.unusedSimpArgs false
/-- the first k cells are laid -/
def part (n k : Nat) : List Int := (bootMem 48 n).take k ++ List.replicate (n - k) 0
theorem part_length {n k : Nat} (h : k ≤ n) : (part n k).length = n := by unfold part; rw [List.length_append, List.length_take, bootMem_length, List.length_replicate]; omega
theorem part_zero (n : Nat) : part n 0 = List.replicate n 0 := by simp [part]
theorem part_all (n : Nat) : part n n = bootMem 48 n := by unfold part; rw [Nat.sub_self, List.take_of_length_le (by rw [bootMem_length]; omega)]; simp
theorem part_at {n k j : Nat} (h : k ≤ n) : (part n k)[j]? = if j < n then some (if j < k then bootCell 48 j else 0) else none := by
  unfold part
  by_cases h1 : j < k
  · rw [List.getElem?_append_left (by rw [List.length_take, bootMem_length]; omega), List.getElem?_take, if_pos h1, bootMem_at, if_pos (by omega), if_pos (by omega), if_pos h1]
  · rw [List.getElem?_append_right (by rw [List.length_take, bootMem_length]; omega), List.getElem?_replicate, List.length_take, bootMem_length]
    by_cases h2 : j < n
    · rw [if_pos (by omega), if_pos h2, if_neg h1]
    · rw [if_neg (by omega), if_neg h2]
theorem part_set {n k : Nat} (h : k < n) : (part n k).set k (bootCell 48 k) = part n (k + 1) := by
  apply List.ext_getElem?
  intro j
  rw [List.getElem?_set, part_at (by omega), part_at (by omega), part_length (by omega)]
  by_cases h1 : k = j
  · subst h1
    rw [if_pos rfl, if_pos h, if_pos h, if_pos (by omega)]
  · rw [if_neg h1]
    by_cases h2 : j < n
    · rw [if_pos h2, if_pos h2]
      by_cases h3 : j < k
      · rw [if_pos h3, if_pos (by omega)]
      · rw [if_neg h3, if_neg (by omega)]
    · rw [if_neg h2, if_neg h2]
theorem part_same {n k : Nat} (h : k < n) (h0 : bootCell 48 k = 0) : part n (k + 1) = part n k := by
  apply List.ext_getElem?
  intro j
  rw [part_at (by omega), part_at (by omega)]
  by_cases h1 : j = k
  · subst h1
    rw [if_pos h, if_pos h, if_pos (by omega), if_neg (by omega), h0]
  · by_cases h2 : j < n
    · rw [if_pos h2, if_pos h2]
      by_cases h3 : j < k
      · rw [if_pos h3, if_pos (by omega)]
      · rw [if_neg h3, if_neg (by omega)]
    · rw [if_neg h2, if_neg h2]
set_option maxHeartbeats 8000000 in
set_option maxRecDepth 100000 in
theorem refBoot_any (w : World) (n : Int) (nn : Nat) (hn : (nn : Int) = min (max n 0) 3000) (inp : ByteArray) :
    Calls Tryz.prog 34 #[.int .i64 n, .string inp] w (GivesM (bootM nn inp) w) := by
  obtain ⟨i0, HI1, HI2, HI3, HI4⟩ := int_facts
  have HI := Lib.hid (And.intro HI1 (And.intro HI2 (And.intro HI3 HI4)))
  clear HI1 HI2 HI3 HI4
  obtain ⟨w1, r, hw1, hr, HR, HB1, HRG⟩ := new_box w zero10 24
  have HM := Lib.hid hn
  have hn3 : nn ≤ 3000 := by omega
  clear hn
  go_enter Tryz.func34, Tryz.ntmps34
  go_upto_region 1 with fail
  clear hw1 hr
  go_wp2_with (at_make; refine wpList_make_full _ rfl _ _ 22 rfl w1.heap.size 3 i0 (.int .i64 0) 1 Tryz.underlying22 HI.out.1 HI.out.2.1 HI.out.2.2.1 .i64 .i64 _ _ nn rfl rfl ?a1 ?a2 ?a3 ?a4 (Nat.le_refl _) ?_)
  case a1 => exact HM.out.symm
  case a2 => exact HM.out.symm
  case a3 => rw [HI.out.2.2.2]; omega
  case a4 => unfold maxLen; omega
  intro w2 hO hG
  rw [toList_madeCells_one] at hO
  have hb1 := (Stirred.of_grown hG).below (B := w1.heap.size) (fun k h => by cases h) (Nat.le_refl _)
  obtain ⟨g, hg⟩ : ∃ g, w1.heap.size = g := ⟨_, rfl⟩
  rw [hg] at hO hb1 ⊢
  have HGE := Lib.hid hg
  have HO := Lib.hid (show Owns w2 g 3 (.slice (some ⟨g, 0, none⟩) nn nn) (vals (part nn 0)) by
    have := Owns.of_row hO
    rw [part_zero, vals, List.map_replicate]
    exact this)
  have HB2 := Lib.hid hb1
  clear hO hG hb1 hg
  go_wp2_with fail
  go_loopg [6] nn (fun z f wr => ∃ k : Nat, z = nn - k ∧ k ≤ nn ∧ f = .int .i64 k ∧ Hid (Owns wr g 3 (.slice (some ⟨g, 0, none⟩) nn nn) (vals (part nn k))) ∧ Hid (Below g w1 wr))
  case atStart => exact ⟨0, rfl, Nat.zero_le _, rfl, HO, HB2⟩
  case round =>
    obtain ⟨k, rfl, hk, rfl, HX, HY⟩ := hrel
    by_cases hlt : k < nn
    · have hk0 : (0 : Int) ≤ (k : Int) := Int.natCast_nonneg _
      have hk1 : (k : Int) < (nn : Int) := by omega
      obtain ⟨kc, kf⟩ := owns_at HX.out (show k < (part nn k).length by rw [part_length hk]; exact hlt)
      have HS := Lib.hid (fun v : Int => And.intro (HX.out.stored k (.int .i64 v)) (show Below g w1 (wr.setCell ⟨g, k, none⟩ (.int .i64 v)) from HY.out.trans (((Stirred.setCell wr ⟨g, k, none⟩ (.int .i64 v)).below (B := g) (fun j h => by rw [List.mem_singleton.1 h]; exact Nat.le_refl _) (HGE.out ▸ HY.out.size)))))
      by_cases c1 : k = 1
      · subst c1
        have hb : bootCell 48 1 = 1 := rfl
        have H1 := Lib.hid (part_set hlt)
        rw [hb] at H1
        have HZ := Lib.hid (HS.out 1)
        rw [vals_set, H1.out] at HZ
        clear HS
        go_wp2
        go_roundg (nn - (1 + 1))
        case measure => omega
        case rel => exact ⟨1 + 1, rfl, by omega, by go_num, HZ.out.1, HZ.out.2⟩
      · by_cases c2 : 64 ≤ k
        · by_cases c3 : k < 160
          · by_cases c4 : k % 2 = 0
            · have hb : bootCell 48 k = ((k - 64) / 2 : Nat) := by unfold bootCell; rw [if_pos (by omega), if_pos c4]
              have q1 : (k : Int).tmod 2 = 0 := by rw [Int.tmod_eq_emod_of_nonneg hk0]; omega
              obtain ⟨q, hq⟩ : ∃ q, (k - 64) / 2 = q := ⟨_, rfl⟩
              have q2 : ((k : Int) - 64).tdiv 2 = (q : Int) := by rw [Int.tdiv_eq_ediv_of_nonneg (by omega)]; omega
              have q3 : wrap64 (q : Int) = (q : Int) := by unfold wrap64; omega
              have H1 := Lib.hid (part_set hlt)
              rw [hb, hq] at H1
              have hx5 := (HS.out 5).1
              have HZ := Lib.hid (And.intro (hx5.stored k (.int .i64 q)) (show Below g w1 ((wr.setCell ⟨g, k, none⟩ (.int .i64 5)).setCell ⟨g, k, none⟩ (.int .i64 q)) from (HS.out 5).2.trans (((Stirred.setCell _ ⟨g, k, none⟩ (.int .i64 q)).below (B := g) (fun j h => by rw [List.mem_singleton.1 h]; exact Nat.le_refl _) (HGE.out ▸ (HS.out 5).2.size)))))
              rw [vals_set, vals_set, List.set_set, H1.out] at HZ
              rw [vals_set] at hx5
              obtain ⟨kc5, kf5⟩ := owns_at hx5 (show k < ((part nn k).set k 5).length by rw [List.length_set, part_length hk]; exact hlt)
              clear HS hx5 hq hb
              go_wp2
              go_roundg (nn - (k + 1))
              case measure => omega
              case rel => exact ⟨k + 1, rfl, by omega, by go_num, HZ.out.1, HZ.out.2⟩
            · have hb : bootCell 48 k = 5 := by unfold bootCell; rw [if_pos (by omega), if_neg c4]
              have q1 : ¬ (k : Int).tmod 2 = 0 := by rw [Int.tmod_eq_emod_of_nonneg hk0]; omega
              have H1 := Lib.hid (part_set hlt)
              rw [hb] at H1
              have HZ := Lib.hid (HS.out 5)
              rw [vals_set, H1.out] at HZ
              clear HS hb
              go_wp2
              go_roundg (nn - (k + 1))
              case measure => omega
              case rel => exact ⟨k + 1, rfl, by omega, by go_num, HZ.out.1, HZ.out.2⟩
          · have hb : bootCell 48 k = 0 := by unfold bootCell; rw [if_neg (by omega), if_neg c1]
            have H1 := Lib.hid (part_same hlt hb)
            clear HS hb
            go_wp2
            go_roundg (nn - (k + 1))
            case measure => omega
            case rel => exact ⟨k + 1, rfl, by omega, by go_num, by rw [H1.out]; exact HX.out, HY.out⟩
        · have hb : bootCell 48 k = 0 := by unfold bootCell; rw [if_neg (by omega), if_neg c1]
          have H1 := Lib.hid (part_same hlt hb)
          clear HS hb
          go_wp2
          go_roundg (nn - (k + 1))
          case measure => omega
          case rel => exact ⟨k + 1, rfl, by omega, by go_num, by rw [H1.out]; exact HX.out, HY.out⟩
    · obtain rfl : k = nn := by omega
      have HO := Lib.hid HX.out
      rw [part_all] at HO
      have HRR := Lib.hid ((Stirred.of_below (HY.out.mono (Nat.le_of_eq HGE.out)) []).whole HR.out List.not_mem_nil)
      have HBW := Lib.hid (show Below w.heap.size w wr from HB1.out.trans (HY.out.mono (by have := HB1.out.size; have := HGE.out; omega)))
      clear HX
      go_wp2_with (refine st_state (by rfl) _ _ rfl r _ rfl rfl _ _ HRR.out rfl rfl (all_one rfl rfl rfl) ?_; intro wf hrf htf; have HRF := Lib.hid hrf; have HTF := Lib.hid htf; clear hrf htf)
      refine bodyPost_ret (results_cell_row rfl _ _ r _ _ _ _ rfl HRF.out Tryz.underlying24 rfl state_size) rfl ?_
      have hge := HGE.out
      have hrl := whole_lt HR.out
      have hrg := HRG.out
      refine ⟨_, rfl, ⟨_, _, _, rfl, ⟨Owns.nil _ _ _, Owns.nil _ _ _, (HO.out.touch HTF.out (fun j hj hm => ?_)).from (by omega), (fun j e => by simp [blk] at e), (fun j e => by simp [blk] at e)⟩⟩, HBW.out.trans (HTF.out.below (fun j hj => by rw [List.mem_singleton.1 hj]; omega) HBW.out.size)⟩
      have h1 := (HO.out.block j hj).1
      rw [List.mem_singleton.1 hm] at h1
      omega
end Go.Proofs.YtcffbeihgchpgaaGreatDoor.Inn
