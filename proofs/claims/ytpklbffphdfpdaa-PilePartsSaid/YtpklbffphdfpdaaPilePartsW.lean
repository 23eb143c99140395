/- PileParts: the walk. -/
import Derived.Test.YtpklbffphdfpdaaPileBackW
import Derived.Test.YtpklbffphdfpdaaUnguard
import Derived.IntWalk
namespace Go.Proofs.Ytpklbffphdfpdaa.PileParts
open Go.RowKit Book Mem
set_option linter.unusedSimpArgs false
set_option linter.unusedVariables false
/-- the place that a number stands for -/
theorem place (a : Int) (n : Nat) (hn : n ≤ 200) : ∃ j : Nat, j ≤ n ∧ (a.tmod (n + 1) + n + 1).tmod (n + 1) = (j : Int) ∧ -200 ≤ a.tmod (n + 1) ∧ a.tmod (n + 1) ≤ 200 := by
  have h1 := Int.tmod_lt_of_pos a (show (0 : Int) < n + 1 by omega)
  have h2 : -((n : Int) + 1) < a.tmod (n + 1) := Int.lt_tmod_of_pos a (show (0 : Int) < n + 1 by omega)
  have h3 : 0 ≤ a.tmod (n + 1) + n + 1 := by omega
  refine ⟨((a.tmod (n + 1) + n + 1).tmod (n + 1)).toNat, ?_, ?_, by omega, by omega⟩
  · have := Int.tmod_lt_of_pos (a.tmod (n + 1) + n + 1) (show (0 : Int) < n + 1 by omega)
    have := Int.tmod_nonneg ((n : Int) + 1) h3
    omega
  · rw [Int.toNat_of_nonneg (Int.tmod_nonneg _ h3)]
set_option maxHeartbeats 4000000 in
set_option maxRecDepth 100000 in
theorem main (v1 : Value) (x : List Int) (v2 : Value) (y : List Int) (n : Int) (W : World) (h1 : Reads W v1 x) (h2 : Reads W v2 y) (hx : x.length ≤ 40) (hy : y.length ≤ 40) :
    Calls Try.prog 5 #[v1, v2, .int .i64 n] W (Yes W) := by
  have HR1 := Lib.hid h1
  have HR2 := Lib.hid h2
  obtain ⟨o1, c1, rfl, _⟩ := h1
  obtain ⟨o2, c2, rfl, _⟩ := h2
  obtain ⟨n1, hn1⟩ : ∃ n, x.length = n := ⟨_, rfl⟩
  obtain ⟨n2, hn2⟩ : ∃ n, y.length = n := ⟨_, rfl⟩
  have HN := Lib.hid (And.intro hn1 hn2)
  rw [hn1] at HR1 hx ⊢
  rw [hn2] at HR2 hy ⊢
  clear hn1 hn2
  obtain ⟨N, hN⟩ : ∃ N, n1 + n2 = N := ⟨_, rfl⟩
  have HNN := Lib.hid hN
  obtain ⟨k, hk, ek, lo, hi⟩ := place n N (by omega)
  have HK := Lib.hid ek
  have eN : (n1 : Int) + (n2 : Int) = (N : Int) := by omega
  clear ek
  obtain ⟨i0, q1, q2, q3, q4⟩ := info_parts Try.bkIntInfo
  have HI := Lib.hid (And.intro q1 (And.intro q2 (And.intro q3 q4)))
  have C := Lib.hid (alive_any W)
  have e1 : decide (40 < (n1 : Int)) = false := decide_eq_false (by omega)
  have e2 : decide (40 < (n2 : Int)) = false := decide_eq_false (by omega)
  clear q1 q2 q3 q4 hN
  go_enter Try.func5, Try.ntmps5
  go_wp2_with fail
  refine C.out.mono ?_
  rintro e w1 ⟨rfl, hb⟩
  have HB1 := Lib.hid hb
  clear C hb e1 e2
  have C := Lib.hid (show Calls Try.prog 9 #[.int .i64 100, .slice o1 n1 c1] w1 (MadeP w1 100 (x.take 100)) from new_any 100 100 (by decide) (.slice o1 n1 c1) x w1 (HR1.out.below HB1.out))
  rw [List.take_of_length_le (by rw [HN.out.1]; omega)] at C
  go_wp2_with fail
  refine C.out.mono ?_
  rintro e w2 ⟨p, g, rfl, hP, hb⟩
  have HP2 := Lib.hid (hP.from HB1.out.size)
  have HB2 := Lib.hid (HB1.out.trans (hb.mono HB1.out.size))
  clear C hP hb HB1
  have HA2 := Lib.hid (HR1.out.below HB2.out)
  go_wp2_with (at_builtin; refine wpList_append_reads _ rfl _ _ 22 rfl w2.heap.size 3 i0 (.int .i64 0) 8 Try.underlying22 HI.out.1 HI.out.2.1 HI.out.2.2.1 HI.out.2.2.2 rfl _ [] rfl (Owns.nil _ _ _) _ x rfl HA2.out ?c3 ?c4 (Nat.le_refl _) ?_)
  case c3 => have := HN.out.1; unfold maxLen; simp; omega
  case c4 => have := HN.out.1; simp; omega
  intro u w3 hO _ hs _
  have hb : Below w2.heap.size w2 w3 := hs.below (fun z hz => by cases hz) (Nat.le_refl _)
  have hO : Owns w3 w2.heap.size 3 u (vals x) := hO
  obtain ⟨uo, uc, e⟩ := hO.slice
  rw [vals_length, HN.out.1] at e
  subst e
  have HO3 := Lib.hid hO
  have HP3 := Lib.hid (HP2.out.below hb)
  have HB3 := Lib.hid (HB2.out.trans (hb.mono HB2.out.size))
  have HZ3 := Lib.hid hb
  clear hO hs hb
  have HA3 := Lib.hid (HR2.out.below HB3.out)
  go_wp2_with (at_builtin; refine wpList_append_reads _ rfl _ _ 22 rfl w2.heap.size 3 i0 (.int .i64 0) 8 Try.underlying22 HI.out.1 HI.out.2.1 HI.out.2.2.1 HI.out.2.2.2 rfl _ (vals x) rfl HO3.out _ y rfl HA3.out ?d3 ?d4 HZ3.out.size ?_)
  case d3 => have := HN.out; unfold maxLen; rw [vals_length]; omega
  case d4 => have := HN.out; rw [vals_length]; omega
  intro u w4 hO _ hs _
  have hb : Below w2.heap.size w3 w4 := hs.below (fun z hz => (HO3.out.block z (by simpa using hz)).1) HZ3.out.size
  have hO : Owns w4 w2.heap.size 3 u (vals (x ++ y)) := by rw [show vals (x ++ y) = vals x ++ vals y by simp [vals]]; exact hO
  obtain ⟨vo, vc, e⟩ := hO.slice
  rw [vals_length, List.length_append, HN.out.1, HN.out.2, HNN.out] at e
  subst e
  have HO4 := Lib.hid hO
  have HZ4 := Lib.hid (HZ3.out.trans hb)
  have HP4 := Lib.hid (HP2.out.below HZ4.out)
  have HB4 := Lib.hid (HB2.out.trans (HZ4.out.mono HB2.out.size))
  clear hO hs hb HO3 HP3 HB3 HZ3 HA2 HA3
  have C := Lib.hid (show Calls Try.prog 9 #[.int .i64 100, .slice vo N vc] w4 (MadeP w4 100 ((x ++ y).take 100)) from new_any 100 100 (by decide) (.slice vo N vc) (x ++ y) w4 (Reads.of_owns HO4.out))
  rw [List.take_of_length_le (by rw [List.length_append, HN.out.1, HN.out.2]; omega)] at C
  go_wp2_with fail
  refine C.out.mono ?_
  rintro e w5 ⟨p', g', rfl, hP, hb⟩
  have HQ5 := Lib.hid (hP.from HB4.out.size)
  have HP5 := Lib.hid (HP4.out.below hb)
  have HB5 := Lib.hid (HB4.out.trans (hb.mono HB4.out.size))
  have HD := Lib.hid (fun z (hz : z ∈ foot p g) (hz' : z ∈ foot p' g') => (show False by have h1 := (HP4.out.foot_lt z hz).2; have h2 := (hP.foot_lt z hz').1; omega))
  clear C hP hb HO4 HZ4 HP4 HB4 HP2 HB2
  have C := Lib.hid (push_yes HP5.out (.slice o2 n2 c2) y (fun w' hs => HR2.out.below (HP5.out.past HB5.out (fun _ h => h) hs)) (by rw [HN.out.1, HN.out.2]; omega))
  go_wp2_with fail
  refine C.out.mono ?_
  rintro e w6 ⟨rfl, hP, hs⟩
  have HP6 := Lib.hid hP
  have HQ6 := Lib.hid (HQ5.out.touch hs (fun z hz hm => HD.out z hm hz))
  have HB6 := Lib.hid (HP5.out.past HB5.out (fun _ h => h) hs)
  clear C hP hs HP5 HQ5 HB5
  have C := Lib.hid (all_any HP6.out)
  go_wp2_with fail
  refine C.out.mono ?_
  rintro e w7 ⟨a, rfl, hO, hb⟩
  obtain ⟨ao, ac, e⟩ := hO.slice
  rw [vals_length, List.length_append, HN.out.1, HN.out.2, HNN.out] at e
  subst e
  have HO7 := Lib.hid hO
  have HP7 := Lib.hid (HP6.out.below hb)
  have HQ7 := Lib.hid (HQ6.out.below hb)
  have HB7 := Lib.hid (HB6.out.trans (hb.mono HB6.out.size))
  clear C hO hb HP6 HQ6 HB6
  have C := Lib.hid (all_any HQ7.out)
  go_wp2_with fail
  refine C.out.mono ?_
  rintro e w8 ⟨b, rfl, hO, hb⟩
  obtain ⟨bo, bc, e⟩ := hO.slice
  rw [vals_length, List.length_append, HN.out.1, HN.out.2, HNN.out] at e
  subst e
  have HP8 := Lib.hid (HP7.out.below hb)
  have HQ8 := Lib.hid (HQ7.out.below hb)
  have HB8 := Lib.hid (HB7.out.trans (hb.mono HB7.out.size))
  have C := Lib.hid (sameReads_any (.slice ao N ac) (.slice bo N bc) (x ++ y) w8 (Reads.of_owns (HO7.out.below hb)) (Reads.of_owns hO) (by rw [List.length_append, HN.out.1, HN.out.2]; omega))
  clear hO hb HP7 HQ7 HB7 HO7
  go_wp2_with fail
  refine C.out.mono ?_
  rintro e w9 ⟨rfl, qq, hqq⟩
  have hb : Below w8.heap.size w8 w9 := by rw [hqq]; exact bk_below_drewN _ _ _
  have HP9 := Lib.hid (HP8.out.below hb)
  have HQ9 := Lib.hid (HQ8.out.below hb)
  have HB9 := Lib.hid (HB8.out.trans (hb.mono HB8.out.size))
  clear C hqq hb HP8 HQ8 HB8
  have eN0 : (N : Int) + 1 ≠ 0 := by omega
  go_wp2_with fail
  rw [HK.out]
  obtain ⟨m, hm⟩ : ∃ m, N - k = m := ⟨_, rfl⟩
  have em : (N : Int) - (k : Int) = (m : Int) := by omega
  have HMK := Lib.hid (show m + k = N by omega)
  have HXY := Lib.hid (show (x ++ y).length = N by rw [List.length_append, HN.out.1, HN.out.2, HNN.out])
  obtain ⟨xy, hxy⟩ : ∃ xy, x ++ y = xy := ⟨_, rfl⟩
  rw [hxy] at HP9 HQ9 HXY
  clear hxy hm hk
  have C := Lib.hid (pop_yes HP9.out HB9.out.size k m (by rw [HXY.out]; exact HMK.out))
  refine C.out.mono ?_
  rintro e w10 ⟨v, rfl, hO, hP, hs⟩
  obtain ⟨o10, c10, e⟩ := hO.slice
  rw [vals_length, List.length_drop, HXY.out, show N - m = k by have := HMK.out; omega] at e
  subst e
  have HO10 := Lib.hid hO
  have HZ10 := Lib.hid (fun z (hz : blk (.slice o10 k c10) = some z) => (hO.block z hz).1)
  have HP10 := Lib.hid hP
  have HQ10 := Lib.hid (HQ9.out.touch hs (fun z hz hm => HD.out z hm hz))
  have HB10 := Lib.hid (HP9.out.past HB9.out (fun _ h => h) hs)
  have HW9 := Lib.hid (show ∀ z, z ∈ foot p g ∨ z ∈ foot p' g' → z < w9.heap.size from fun z hz => by
    rcases hz with hz | hz
    · exact (HP9.out.foot_lt z hz).2
    · exact (HQ9.out.foot_lt z hz).2)
  clear C hO hP hs HP9 HQ9 HB9 eN0
  have htk : (xy.take m).length = m := by rw [List.length_take, HXY.out]; have := HMK.out; omega
  have C := Lib.hid (pop_yes HP10.out HB10.out.size m 0 (by rw [htk]; omega))
  have HTK := Lib.hid htk
  clear htk
  go_wp2_with fail
  refine C.out.mono ?_
  rintro e w11 ⟨v, rfl, hO, hP, hs⟩
  rw [List.drop_zero] at hO
  rw [List.take_zero] at hP
  obtain ⟨o11, c11, e⟩ := hO.slice
  rw [vals_length, HTK.out] at e
  subst e
  have HO11 := Lib.hid hO
  have HZ11 := Lib.hid (fun z (hz : blk (.slice o11 m c11) = some z) => (hO.block z hz).1)
  have HS11 := Lib.hid hs.size
  have HP11 := Lib.hid hP
  have HX11 := Lib.hid (HO10.out.touch hs (fun z hz hm => by have := HZ10.out z hz; have := HW9.out z (.inl hm); omega))
  have HQ11 := Lib.hid (HQ10.out.touch hs (fun z hz hm => HD.out z hm hz))
  have HB11 := Lib.hid (HP10.out.past HB10.out (fun _ h => h) hs)
  have HW10 := Lib.hid (show ∀ z, z ∈ foot p g ∨ z ∈ foot p' g' → z < w10.heap.size from fun z hz => by
    rcases hz with hz | hz
    · exact (HP10.out.foot_lt z hz).2
    · exact (HQ10.out.foot_lt z hz).2)
  clear C hO hP hs HP10 HQ10 HB10 HO10
  have C := Lib.hid (pop_yes HQ11.out HB11.out.size N 0 (by rw [HXY.out]; omega))
  go_wp2_with fail
  refine C.out.mono ?_
  rintro e w12 ⟨v, rfl, hO, hP, hs⟩
  rw [List.drop_zero] at hO
  rw [List.take_zero] at hP
  obtain ⟨o12, c12, e⟩ := hO.slice
  rw [vals_length, HXY.out] at e
  subst e
  have HO12 := Lib.hid hO
  have HP12 := Lib.hid (HP11.out.touch hs (fun z hz hm => HD.out z hz hm))
  have HQ12 := Lib.hid hP
  have HX12 := Lib.hid (HX11.out.touch hs (fun z hz hm => by have := HZ10.out z hz; have := HW9.out z (.inr hm); omega))
  have HY12 := Lib.hid (HO11.out.touch hs (fun z hz hm => by have := HZ11.out z hz; have := HW10.out z (.inr hm); omega))
  have HB12 := Lib.hid (HQ11.out.past HB11.out (fun _ h => h) hs)
  clear C hO hP hs HP11 HQ11 HB11 HO11 HX11 HZ10 HZ11 HW9 HW10 HS11
  have HRY := Lib.hid (Reads.of_owns HY12.out)
  go_wp2_with (at_builtin; refine wpList_unguard (by rfl) ?_; refine wpList_append_reads _ rfl _ _ 22 rfl w12.heap.size 3 i0 (.int .i64 0) 8 Try.underlying22 HI.out.1 HI.out.2.1 HI.out.2.2.1 HI.out.2.2.2 rfl _ [] rfl (Owns.nil _ _ _) _ (xy.take m) rfl HRY.out ?f3 ?f4 (Nat.le_refl _) ?_)
  case f3 => have := HTK.out; have := HMK.out; unfold maxLen; rw [List.length_nil]; omega
  case f4 => have := HTK.out; have := HMK.out; rw [List.length_nil]; omega
  intro u w13 hO _ hs _
  have hb : Below w12.heap.size w12 w13 := hs.below (fun z hz => by cases hz) (Nat.le_refl _)
  have hO : Owns w13 w12.heap.size 3 u (vals (xy.take m)) := by rw [vals, List.map_take]; exact hO
  obtain ⟨uo', uc', e⟩ := hO.slice
  rw [vals_length, HTK.out] at e
  subst e
  have HO13 := Lib.hid hO
  have HZ13 := Lib.hid hb
  have HRX := Lib.hid (Reads.of_owns (HX12.out.below hb))
  clear hO hs hb
  go_wp2_with (at_builtin; refine wpList_unguard (by rfl) ?_; refine wpList_append_reads _ rfl _ _ 22 rfl w12.heap.size 3 i0 (.int .i64 0) 8 Try.underlying22 HI.out.1 HI.out.2.1 HI.out.2.2.1 HI.out.2.2.2 rfl _ (vals (xy.take m)) rfl HO13.out _ (xy.drop m) rfl HRX.out ?g3 ?g4 HZ13.out.size ?_)
  case g3 => have := HTK.out; have := HMK.out; have := HXY.out; unfold maxLen; rw [vals_length, List.length_drop]; omega
  case g4 => have := HTK.out; have := HMK.out; have := HXY.out; rw [vals_length, List.length_drop]; omega
  intro u w14 hO _ hs _
  have hb : Below w12.heap.size w13 w14 := hs.below (fun z hz => (HO13.out.block z (by simpa using hz)).1) HZ13.out.size
  have hO : Owns w14 w12.heap.size 3 u (vals xy) := hO
  obtain ⟨uo2, uc2, e⟩ := hO.slice
  rw [vals_length, HXY.out] at e
  subst e
  have hb14 := HZ13.out.trans hb
  have C := Lib.hid (sameReads_any (.slice uo2 N uc2) (.slice o12 N c12) xy w14 (Reads.of_owns hO) (Reads.of_owns (HO12.out.below hb14)) (by rw [HXY.out]; omega))
  have HP14 := Lib.hid (HP12.out.below hb14)
  have HQ14 := Lib.hid (HQ12.out.below hb14)
  have HB14 := Lib.hid (HB12.out.trans (hb14.mono HB12.out.size))
  clear hO hs hb hb14 HO13 HZ13 HRX HRY HP12 HQ12 HB12 HX12 HY12 HO12
  go_wp2_with fail
  refine C.out.mono ?_
  rintro e w15 ⟨rfl, qq, hqq⟩
  have hb : Below w14.heap.size w14 w15 := by rw [hqq]; exact bk_below_drewN _ _ _
  have HB15 := Lib.hid (HB14.out.trans (hb.mono HB14.out.size))
  have C1 := Lib.hid (len_any (HP14.out.below hb))
  have C2 := Lib.hid (len_any (HQ14.out.below hb))
  clear C hqq hb HP14 HQ14 HB14
  rw [List.length_nil] at C1 C2
  go_wp2_with fail
  refine C1.out.mono ?_
  rintro e wz ⟨rfl, hwz⟩
  subst wz
  go_wp2_with fail
  refine C2.out.mono ?_
  rintro e wz ⟨rfl, hwz⟩
  subst wz
  go_wp2
  go_ret
  exact ⟨rfl, HB15.out⟩
theorem early (o1 : Option Addr) (n1 c1 : Nat) (o2 : Option Addr) (n2 c2 : Nat) (n : Int) (W : World) (h : 40 < n1 ∨ 40 < n2) :
    Calls Try.prog 5 #[.slice o1 n1 c1, .slice o2 n2 c2, .int .i64 n] W (Yes W) := by
  have C := Lib.hid (alive_any W)
  by_cases h1 : 40 < n1
  · have e1 : decide (40 < (n1 : Int)) = true := decide_eq_true (by omega)
    clear h h1
    go_enter Try.func5, Try.ntmps5
    go_wp2_with fail
    refine C.out.mono ?_
    rintro e w1 ⟨rfl, hb⟩
    have HB := Lib.hid hb
    clear hb C
    go_wp2
    go_ret
    exact ⟨rfl, HB.out⟩
  · have e1 : decide (40 < (n1 : Int)) = false := decide_eq_false (by omega)
    have e2 : decide (40 < (n2 : Int)) = true := decide_eq_true (by omega)
    clear h h1
    go_enter Try.func5, Try.ntmps5
    go_wp2_with fail
    refine C.out.mono ?_
    rintro e w1 ⟨rfl, hb⟩
    have HB := Lib.hid hb
    clear hb C
    go_wp2
    go_ret
    exact ⟨rfl, HB.out⟩
theorem walk (v1 : Value) (x : List Int) (v2 : Value) (y : List Int) (n : Int) (W : World) (h1 : Reads W v1 x ∧ ∀ a ∈ x, (Lit.int .i64 a).wf = true) (h2 : Reads W v2 y ∧ ∀ a ∈ y, (Lit.int .i64 a).wf = true) (w2 : (Lit.int .i64 n).wf = true) :
    Calls Try.prog 5 #[v1, v2, .int .i64 n] W (Yes W) := by
  by_cases h : 40 < x.length ∨ 40 < y.length
  · obtain ⟨⟨o1, c1, rfl, _⟩, _⟩ := h1
    obtain ⟨⟨o2, c2, rfl, _⟩, _⟩ := h2
    exact early _ _ _ _ _ _ n W h
  · exact main v1 x v2 y n W h1.1 h2.1 (by omega) (by omega)
end Go.Proofs.Ytpklbffphdfpdaa.PileParts
