/- FieldLong: the walk. -/
import Derived.Test.YtifcjcheokkojaaFieldAlive
namespace Go.Proofs.Ytifcjcheokkojaa.FieldLong
open Go.RowKit Book Mem
set_option linter.unusedSimpArgs false
set_option linter.unusedVariables false
/-- the numbers that are laid -/
def nums (v : Int) (n : Nat) : List Int := (List.range n).map fun k : Nat => wrap64 (v + (k : Int))
theorem nums_length (v : Int) (n : Nat) : (nums v n).length = n := by simp [nums]
theorem nums_at (v : Int) {n k : Nat} (h : k < n) : (vals (nums v n))[k]? = some (.int .i64 (wrap64 (v + (k : Int)))) := by simp [nums, vals, h]
set_option maxHeartbeats 4000000 in
set_option maxRecDepth 100000 in
theorem main (n : Nat) (v : Int) (W : World) (hn : n ≤ 10000) :
    Calls Try.prog 4 #[.int .i64 n, .int .i64 v] W (Yes W) := by
  obtain ⟨m, hm⟩ : ∃ m, min n 3000 = m := ⟨_, rfl⟩
  have hmn : m ≤ n := by omega
  have hm3 : m ≤ 3000 := by omega
  have hmi : min (n : Int) 3000 = (m : Int) := by omega
  have HM := Lib.hid hm
  have HMI := Lib.hid hmi
  have C := Lib.hid (alive_any W)
  have D := Lib.hid (fun w => new_any (n : Int) m (by omega) w)
  obtain ⟨i0, q1, q2, q3, q4⟩ := info_parts Try.fdIntInfo
  have HI := Lib.hid (And.intro q1 (And.intro q2 (And.intro q3 q4)))
  have hn0 : decide ((n : Int) < 0) = false := decide_eq_false (by omega)
  have hn1 : decide (10000 < (n : Int)) = false := decide_eq_false (by omega)
  have hnn : (0 : Int) ≤ (n : Int) := by omega
  clear q1 q2 q3 q4 hm hmi
  go_enter Try.func4, Try.ntmps4
  go_wp2_with fail
  refine C.out.mono ?_
  rintro e w1 ⟨rfl, hb⟩
  have HB1 := Lib.hid hb
  clear C hb
  go_wp2_with fail
  refine (D.out w1).mono ?_
  rintro e w2 ⟨p, vC, rfl, hF, hb⟩
  have HF2 := Lib.hid hF
  have HB2 := Lib.hid (HB1.out.trans (hb.mono HB1.out.size))
  have HZ2 := Lib.hid hb.size
  clear hF hb D
  go_wp2_with (at_make; refine wpList_make_full _ rfl _ _ 22 rfl w2.heap.size 3 i0 (.int .i64 0) 1 Try.underlying22 HI.out.1 HI.out.2.1 HI.out.2.2.1 .i64 .i64 _ _ n rfl rfl ?a1 ?a2 ?a3 ?a4 (Nat.le_refl _) ?_)
  case a1 => rfl
  case a2 => rfl
  case a3 => rw [HI.out.2.2.2]; omega
  case a4 => unfold maxLen; omega
  intro w3 hO hG
  rw [toList_madeCells_one] at hO
  have HO3 := Lib.hid (Owns.of_row hO)
  have HG3 := Lib.hid ((Stirred.of_grown hG).below (B := w2.heap.size) (fun k h => by cases h) (Nat.le_refl _))
  clear hO hG
  go_wp2
  go_loopg [7] n (fun g k wr => ∃ q : Nat, g = n - q ∧ q ≤ n ∧ k = .int .i64 q ∧ Hid (Owns wr w2.heap.size 3 (.slice (some ⟨w2.heap.size, 0, none⟩) n n) ((vals (nums v n)).take q ++ (List.replicate n (.int .i64 0)).drop q)) ∧ Hid (Stirred w3 wr [w2.heap.size]))
  case atStart => exact ⟨0, rfl, Nat.zero_le _, rfl, HO3.out, Stirred.refl _ _⟩
  case round =>
    obtain ⟨q, rfl, hq, rfl, HO, HS⟩ := hrel
    by_cases hlt : q < n
    · have hxl : ((vals (nums v n)).take q ++ (List.replicate n (Value.int .i64 0)).drop q).length = n := by rw [List.length_append, List.length_take, vals_length, nums_length, List.length_drop, List.length_replicate]; omega
      obtain ⟨g', c', e, hc, hf, _⟩ := HO.out.row (by omega)
      rw [hxl] at e
      simp only [Value.slice.injEq, Option.some.injEq, Addr.mk.injEq, and_true, true_and] at e
      obtain ⟨rfl, rfl⟩ := e
      obtain ⟨old, hold⟩ : ∃ old, ((vals (nums v n)).take q ++ (List.replicate n (Value.int .i64 0)).drop q)[q]? = some old := ⟨_, List.getElem?_eq_getElem (by omega)⟩
      have k1 := hc q old hold
      have f1 := hf q
      have hx2 := HO.out.stored q (.int .i64 (wrap64 (v + (q : Int))))
      rw [mix_set (nums_at v hlt) (by rw [List.length_replicate, vals_length, nums_length])] at hx2
      have HX2 := Lib.hid hx2
      have HS2 := Lib.hid (HS.out.trans (Stirred.setCell wr ⟨w2.heap.size, q, none⟩ (.int .i64 (wrap64 (v + (q : Int))))) (fun _ h => .inl h))
      have hq0 : (0 : Int) ≤ (q : Int) := Int.natCast_nonneg _
      have hq1 : (q : Int) < (n : Int) := by omega
      clear hxl hc hf hold hx2
      go_wp2
      go_roundg (n - (q + 1))
      case measure => omega
      case rel => exact ⟨q + 1, rfl, by omega, by go_num, HX2, HS2⟩
    · obtain rfl : q = n := by omega
      have hfull : (vals (nums v q)).take q ++ (List.replicate q (Value.int .i64 0)).drop q = vals (nums v q) := by
        rw [List.take_of_length_le (by rw [vals_length, nums_length]; omega), List.drop_eq_nil_of_le (by rw [List.length_replicate]; omega), List.append_nil]
      rw [hfull] at HO
      clear hfull
      have hbr := HG3.out.trans (HS.out.below (B := w2.heap.size) (fun k hk => by simp at hk; omega) HG3.out.size)
      have HF4 := Lib.hid (HF2.out.below hbr)
      have HB4 := Lib.hid (HB2.out.trans (hbr.mono HB2.out.size))
      have HZ4 := Lib.hid hbr.size
      clear hbr HS HO3 HG3 HF2 HB1 HB2
      have hr := Reads.of_owns HO.out
      have C := Lib.hid (of_any (.slice (some ⟨w2.heap.size, 0, none⟩) q q) (nums v q) wr hr (by rw [nums_length]; omega))
      clear hr
      go_wp2_with fail
      refine C.out.mono ?_
      rintro e w5 ⟨r, vD, rfl, hG, hb⟩
      have HG5 := Lib.hid hG
      have HF5 := Lib.hid (HF4.out.below hb)
      have HO5 := Lib.hid (HO.out.below hb)
      have HB5 := Lib.hid (HB4.out.trans (hb.mono HB4.out.size))
      clear C hG hb HO HF4 HB4
      have hlt : ((nums v q).take 3000).length = m := by rw [List.length_take, nums_length, Nat.min_comm]; exact HM.out
      have HLT := Lib.hid hlt
      have LF := Lib.hid (len_any HF5.out)
      have LG := Lib.hid (len_any HG5.out)
      rw [List.length_replicate] at LF
      rw [hlt] at LG
      clear hlt
      have hmi := HMI.out
      go_wp2_with fail
      refine LF.out.mono ?_
      rintro e wz ⟨rfl, hwz⟩
      subst wz
      go_wp2_with fail
      refine LG.out.mono ?_
      rintro e wz ⟨rfl, hwz⟩
      subst wz
      go_wp2_with fail
      refine LF.out.mono ?_
      rintro e wz ⟨rfl, hwz⟩
      subst wz
      clear hmi
      have C := Lib.hid (all_any HG5.out)
      go_wp2_with fail
      refine C.out.mono ?_
      rintro e w6 ⟨c, rfl, hc, hb⟩
      clear C
      obtain ⟨co, cc, hcv⟩ := hc.slice
      rw [vals_length, HLT.out] at hcv
      subst hcv
      have HC6 := Lib.hid hc
      have HF6 := Lib.hid (HF5.out.below hb)
      have HG6 := Lib.hid (HG5.out.below hb)
      have HO6 := Lib.hid (HO5.out.below hb)
      have HB6 := Lib.hid (HB5.out.trans (hb.mono HB5.out.size))
      clear hc hb HF5 HG5 HO5 HB5 LF LG
      have LG := Lib.hid (len_any HG6.out)
      rw [HLT.out] at LG
      go_wp2_with fail
      refine LG.out.mono ?_
      rintro e wz ⟨rfl, hwz⟩
      subst wz
      have hsh := owns_shorter (m := m) HO6.out (by rw [nums_length]; exact hmn)
      have htk : (nums v q).take 3000 = (nums v q).take m := by
        have := HM.out
        by_cases h3 : q ≤ 3000
        · rw [List.take_of_length_le (by rw [nums_length]; omega), List.take_of_length_le (by rw [nums_length]; omega)]
        · rw [show m = 3000 by omega]
      rw [← htk] at hsh
      have C := Lib.hid (sameInts_any _ _ _ _ _ w6 HC6.out hsh (by rw [HLT.out]; omega))
      clear hsh htk LG
      go_wp2_with fail
      refine C.out.mono ?_
      rintro e w7 ⟨rfl, nq7, hq7⟩
      have hb : Below w6.heap.size w6 w7 := by rw [hq7]; exact bk_below_drewN _ _ _
      have HF7 := Lib.hid (HF6.out.below hb)
      have HG7 := Lib.hid (HG6.out.below hb)
      have HB7 := Lib.hid (HB6.out.trans (hb.mono HB6.out.size))
      clear hq7 hb C HC6 HF6 HG6 HO6 HB6
      have LF := Lib.hid (len_any HF7.out)
      rw [List.length_replicate] at LF
      go_wp2_with fail
      refine LF.out.mono ?_
      rintro e wz ⟨rfl, hwz⟩
      subst wz
      have C := Lib.hid (store_no HF7.out (m : Int) 1 (by rw [List.length_replicate]; omega))
      clear LF
      go_wp2_with fail
      refine C.out.mono ?_
      rintro e wz ⟨rfl, hwz⟩
      subst wz
      clear C
      have C := Lib.hid (store_no HF7.out (-1) 1 (by omega))
      go_wp2_with fail
      refine C.out.mono ?_
      rintro e wz ⟨rfl, hwz⟩
      subst wz
      clear C
      have C := Lib.hid (changed_any HG7.out)
      go_wp2_with fail
      refine C.out.mono ?_
      rintro e w8 ⟨c, rfl, hc, hb⟩
      obtain ⟨co, cc, hcv⟩ := hc.slice
      rw [vals_length, List.length_nil] at hcv
      subst hcv
      have HB8 := Lib.hid (HB7.out.trans (hb.mono HB7.out.size))
      clear hc hb C
      go_wp2
      go_ret
      exact ⟨rfl, HB8.out⟩
theorem walk (n v : Int) (W : World) (w0 : (Lit.int .i64 n).wf = true) (w1 : (Lit.int .i64 v).wf = true) : Calls Try.prog 4 #[.int .i64 n, .int .i64 v] W (Yes W) := by
  clear w0 w1
  by_cases h0 : n < 0
  · have C := Lib.hid (alive_any W)
    go_enter Try.func4, Try.ntmps4
    go_wp2_with fail
    refine C.out.mono ?_
    rintro e w1 ⟨rfl, hb⟩
    have HB := Lib.hid hb
    clear hb C
    go_wp2
    go_ret
    exact ⟨rfl, HB.out⟩
  · by_cases h1 : 10000 < n
    · have C := Lib.hid (alive_any W)
      go_enter Try.func4, Try.ntmps4
      go_wp2_with fail
      refine C.out.mono ?_
      rintro e w1 ⟨rfl, hb⟩
      have HB := Lib.hid hb
      clear hb C
      go_wp2
      go_ret
      exact ⟨rfl, HB.out⟩
    · obtain ⟨k, rfl⟩ : ∃ k : Nat, n = (k : Int) := ⟨n.toNat, by omega⟩
      exact main k v W (by omega)
end Go.Proofs.Ytifcjcheokkojaa.FieldLong
