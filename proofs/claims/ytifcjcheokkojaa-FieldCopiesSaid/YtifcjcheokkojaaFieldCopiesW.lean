/- FieldCopies: the walk. -/
import Derived.Test.YtifcjcheokkojaaFieldAlive
import Derived.IntWalk
namespace Go.Proofs.Ytifcjcheokkojaa.FieldCopies
open Go.RowKit Book Mem
set_option linter.unusedSimpArgs false
set_option linter.unusedVariables false
/-- the place that a number stands for -/
theorem place (a : Int) (n : Nat) (h0 : 0 < n) (hn : n ≤ 200) : ∃ j : Nat, j < n ∧ (a.tmod n + n).tmod n = (j : Int) ∧ IntKind.i64.wrap (a.tmod n + n) = a.tmod n + n ∧ -200 < a.tmod n ∧ a.tmod n < 200 := by
  have h1 := Int.tmod_lt_of_pos a (show (0 : Int) < n by omega)
  have h2 : -(n : Int) < a.tmod n := by
    have := Int.lt_tmod_of_pos a (show (0 : Int) < n by omega)
    exact this
  have h3 : 0 ≤ a.tmod n + n := by omega
  refine ⟨((a.tmod n + n).tmod n).toNat, ?_, ?_, ?_, by omega, by omega⟩
  · have := Int.tmod_lt_of_pos (a.tmod n + n) (show (0 : Int) < n by omega)
    have := Int.tmod_nonneg n h3
    omega
  · rw [Int.toNat_of_nonneg (Int.tmod_nonneg n h3)]
  · exact IntWalk.i64_in _ (by omega)
set_option maxHeartbeats 4000000 in
set_option maxRecDepth 100000 in
theorem main (v : Value) (l : List Int) (a va b vb : Int) (W : World) (hr : Reads W v l) (h0 : 0 < l.length) (hl : l.length ≤ 200) :
    Calls Try.prog 5 #[v, .int .i64 a, .int .i64 va, .int .i64 b, .int .i64 vb] W (Yes W) := by
  have HR := Lib.hid hr
  obtain ⟨vo, vc, rfl, _⟩ := hr
  obtain ⟨n, hn⟩ : ∃ n, l.length = n := ⟨_, rfl⟩
  have HN := Lib.hid hn
  rw [hn] at h0 hl HR ⊢
  obtain ⟨j, hj, ej, wj, lo1, hi1⟩ := place a n h0 hl
  obtain ⟨k, hk, ek, wk, lo2, hi2⟩ := place b n h0 hl
  have HJ := Lib.hid (And.intro ej wj)
  have HK := Lib.hid (And.intro ek wk)
  have C := Lib.hid (alive_any W)
  have hn0 : ((n : Int) == 0) = false := by simp; omega
  have hn1 : decide (200 < (n : Int)) = false := by simp; omega
  clear hn ej wj ek wk
  go_enter Try.func5, Try.ntmps5
  go_wp2_with fail
  refine C.out.mono ?_
  rintro e w1 ⟨rfl, hb⟩
  have HB := Lib.hid hb
  clear C hb
  have q0 : (n : Int) ≠ 0 := by omega
  go_wp2_with fail
  go_quiet (fail)
  rw [HJ.out.1, HK.out.1]
  obtain ⟨w2, hw2⟩ : ∃ w2, w1.drewN nq = w2 := ⟨_, rfl⟩
  rw [hw2]
  have HB2 := Lib.hid (show Below W.heap.size W w2 by rw [← hw2]; exact HB.out.trans ((bk_below_drewN _ _ _).mono HB.out.size))
  have hj0 : (0 : Int) ≤ (j : Int) := Int.natCast_nonneg _
  have hk0 : (0 : Int) ≤ (k : Int) := Int.natCast_nonneg _
  have hj1 : (j : Int) < (n : Int) := by omega
  have hk1 : (k : Int) < (n : Int) := by omega
  clear hw2 HB lo1 hi1 lo2 hi2
  have ht : l.take 3000 = l := List.take_of_length_le (by have := HN.out; omega)
  -- f
  have C := Lib.hid (of_any (.slice vo n vc) l w2 (HR.out.below HB2.out) (by have := HN.out; omega))
  rw [ht] at C
  clear ht
  go_wp2_with fail
  refine C.out.mono ?_
  rintro e w3 ⟨p, vC, rfl, hF, hB⟩
  have HF := Lib.hid hF
  have HB3 := Lib.hid (HB2.out.trans (hB.mono HB2.out.size))
  have hz2 := HB2.out.size
  have HBf := Lib.hid hB.size
  clear C hF hB
  -- g
  have C := Lib.hid (copy_any HF.out)
  go_wp2_with fail
  refine C.out.mono ?_
  rintro e w4 ⟨q, vD, rfl, hG, hB⟩
  have HG := Lib.hid hG
  have HF4 := Lib.hid (HF.out.below hB)
  have HB4 := Lib.hid (HB3.out.trans (hB.mono HB3.out.size))
  have HBg := Lib.hid hB.size
  clear C hG hB
  -- stores
  have C := Lib.hid (store_yes HF4.out (Nat.le_trans HBf.out HBg.out) j va (by rw [HN.out]; exact hj))
  go_wp2_with fail
  refine C.out.mono ?_
  rintro e w5 ⟨vH, rfl, hF, hs, hn⟩
  have hG5 := HG.out.touch hs (fun x hx hm => by have h1 := (HG.out.foot_lt x hx).1; have h2 := (HF.out.foot_lt x hm).2; omega)
  have HG5 := Lib.hid hG5
  have HF5 := Lib.hid hF
  have HB5 := Lib.hid (HB4.out.trans ((hs.below (fun x hx => (HF.out.foot_lt x hx).1) (Nat.le_trans HBf.out HBg.out)).mono hz2))
  have HS5 := Lib.hid hs.size
  have HH := Lib.hid (show ∀ x, blk vH = some x → w4.heap.size ≤ x from fun x hx => by
    rcases hn with e | ⟨y, e, hy⟩
    · rw [e] at hx; cases hx
    · rw [e] at hx; simp at hx; omega)
  clear C hG5 hF hs hn
  have C := Lib.hid (store_yes HG5.out (Nat.le_trans HBg.out HS5.out) k vb (by rw [HN.out]; exact hk))
  go_wp2_with fail
  refine C.out.mono ?_
  rintro e w6 ⟨vI, rfl, hG, hs, hn⟩
  have HG6 := Lib.hid hG
  have HF6 := Lib.hid (HF5.out.touch hs (fun x hx hm => by
    have h1 := HG.out.foot_lt x hm
    rcases List.mem_cons.1 hx with rfl | hx
    · have := (HF.out.foot_lt x List.mem_cons_self).2; omega
    · rcases List.mem_append.1 hx with hx | hx
      · have := (HF.out.cells.block x (by simpa using hx)).2.1; omega
      · have := HH.out x (by simpa using hx); omega))
  have HB6 := Lib.hid (HB5.out.trans ((hs.below (fun x hx => (HG.out.foot_lt x hx).1) (Nat.le_trans HBg.out HS5.out)).mono (Nat.le_trans hz2 HBf.out)))
  clear C hG hs hn HF HF4 HF5 HG HG5 HB2 HB3 HB4 HB5 HH
  -- copies
  obtain ⟨i0, q1, q2, q3, q4⟩ := info_parts Try.fdIntInfo
  have HI := Lib.hid (And.intro q1 (And.intro q2 (And.intro q3 q4)))
  clear q1 q2 q3 q4
  have HR6 := Lib.hid (HR.out.below HB6.out)
  go_wp2_with (at_builtin; refine wpList_append_reads _ rfl _ _ 22 rfl w6.heap.size 3 i0 (.int .i64 0) 8 Try.underlying22 HI.out.1 HI.out.2.1 HI.out.2.2.1 HI.out.2.2.2 rfl _ [] rfl (Owns.nil _ _ _) _ l rfl HR6.out ?c3 ?c4 (Nat.le_refl _) ?_)
  case c3 => have := HN.out; unfold maxLen; simp; omega
  case c4 => have := HN.out; simp; omega
  intro x w7 hX _ hs _
  have hb7 : Below w6.heap.size w6 w7 := hs.below (fun y hy => by cases hy) (Nat.le_refl _)
  have HX := Lib.hid (show Owns w7 w6.heap.size 3 x (vals l) from hX)
  have HB7 := Lib.hid hb7
  clear hX hs hb7
  have HR7 := Lib.hid (HR6.out.below HB7.out)
  go_wp2_with (at_builtin; refine wpList_append_reads _ rfl _ _ 22 rfl w7.heap.size 3 i0 (.int .i64 0) 8 Try.underlying22 HI.out.1 HI.out.2.1 HI.out.2.2.1 HI.out.2.2.2 rfl _ [] rfl (Owns.nil _ _ _) _ l rfl HR7.out ?d3 ?d4 (Nat.le_refl _) ?_)
  case d3 => have := HN.out; unfold maxLen; simp; omega
  case d4 => have := HN.out; simp; omega
  intro y w8 hY _ hs _
  have hb8 : Below w7.heap.size w7 w8 := hs.below (fun y hy => by cases hy) (Nat.le_refl _)
  have hY : Owns w8 w7.heap.size 3 y (vals l) := hY
  have hX := HX.out.below hb8
  obtain ⟨gx, cx, e, bx⟩ := owns_slice hX (by rw [HN.out]; exact h0)
  rw [HN.out] at e
  subst e
  obtain ⟨gy, cy, e, bY⟩ := owns_slice hY (by rw [HN.out]; exact h0)
  rw [HN.out] at e
  subst e
  have hxlt := HX.out.block gx bx
  have hylt := hY.block gy bY
  obtain ⟨kx, fx⟩ := owns_at hX (j := j) (by rw [HN.out]; exact hj)
  have hx1 := hX.stored j (.int .i64 va)
  rw [vals_set] at hx1
  have s9 := Stirred.setCell w8 ⟨gx, j, none⟩ (.int .i64 va)
  have hy1 := hY.touch s9 (fun z hz hm => by rw [bY] at hz; simp at hz hm; omega)
  obtain ⟨w9, hw9⟩ : ∃ w9, w8.setCell ⟨gx, j, none⟩ (.int .i64 va) = w9 := ⟨_, rfl⟩
  rw [hw9] at hx1 s9 hy1
  obtain ⟨ky, fy⟩ := owns_at hy1 (j := k) (by rw [HN.out]; exact hk)
  have hy2 := hy1.stored k (.int .i64 vb)
  rw [vals_set] at hy2
  have s10 := Stirred.setCell w9 ⟨gy, k, none⟩ (.int .i64 vb)
  have hx2 := hx1.touch s10 (fun z hz hm => by rw [bx] at hz; simp at hz hm; omega)
  have b8 : Below w6.heap.size w6 w8 := HB7.out.trans (hb8.mono HB7.out.size)
  have b9 : Below w6.heap.size w6 w9 := b8.trans (s9.below (fun z hz => by simp at hz; omega) b8.size)
  have b10 := b9.trans (s10.below (fun z hz => by simp at hz; omega) b9.size)
  obtain ⟨w10, hw10⟩ : ∃ w10, w9.setCell ⟨gy, k, none⟩ (.int .i64 vb) = w10 := ⟨_, rfl⟩
  rw [hw10] at hx2 hy2 b10
  have HX10 := Lib.hid hx2
  have HY10 := Lib.hid hy2
  have HF10 := Lib.hid (HF6.out.below b10)
  have HG10 := Lib.hid (HG6.out.below b10)
  have HB10 := Lib.hid (HB6.out.trans (b10.mono HB6.out.size))
  clear hX hY hs hb8 bx bY hxlt hylt hx1 s9 hy1 hy2 s10 hx2 b8 b9 b10 HX HR6 HR7 HF6 HG6 HB6 HB7
  have C := Lib.hid (changed_any HF10.out)
  go_wp2_with fail
  refine C.out.mono ?_
  rintro e w11 ⟨c, rfl, hc, hb⟩
  clear hw9 hw10 kx fx ky fy C
  have hch : chg [] (j : Int) = [(j : Int)] := rfl
  have hck : chg [] (k : Int) = [(k : Int)] := rfl
  rw [hch] at hc
  have HC11 := Lib.hid hc
  have HG11 := Lib.hid (HG10.out.below hb)
  have HB11 := Lib.hid hb
  clear hc hb
  have C := Lib.hid (changed_any HG11.out)
  go_wp2_with fail
  refine C.out.mono ?_
  rintro e w12 ⟨d, rfl, hd, hb⟩
  rw [hck] at hd
  have HD12 := Lib.hid hd
  have HC12 := Lib.hid (HC11.out.below hb)
  have b12 := HB11.out.trans (hb.mono HB11.out.size)
  have HF12 := Lib.hid (HF10.out.below b12)
  have HG12 := Lib.hid (HG10.out.below b12)
  have HX12 := Lib.hid (HX10.out.below b12)
  have HY12 := Lib.hid (HY10.out.below b12)
  have HB12 := Lib.hid (HB10.out.trans (b12.mono HB10.out.size))
  clear hd hb b12 C hch hck HX10 HY10 HF10 HG10 HG11 HC11 HB11 HB10
  have C := Lib.hid (all_any HF12.out)
  go_wp2_with fail
  refine C.out.mono ?_
  rintro e w13 ⟨f, rfl, hf, hb⟩
  clear C
  obtain ⟨fo, fc, hfv⟩ := hf.slice
  rw [vals_length, List.length_set, HN.out] at hfv
  subst hfv
  have C := Lib.hid (sameInts_any _ _ _ _ (l.set j va) w13 hf (HX12.out.below hb) (by rw [List.length_set, HN.out]; omega))
  have HB13 := Lib.hid (HB12.out.trans (hb.mono HB12.out.size))
  have HW13 := Lib.hid hb
  clear hf hb
  go_wp2_with fail
  refine C.out.mono ?_
  rintro e w14 ⟨rfl, nq14, hq⟩
  have hb : Below w13.heap.size w13 w14 := by rw [hq]; exact bk_below_drewN _ _ _
  have b14 := HW13.out.trans (hb.mono HW13.out.size)
  have HG14 := Lib.hid (HG12.out.below b14)
  have HY14 := Lib.hid (HY12.out.below b14)
  have HC14 := Lib.hid (HC12.out.below b14)
  have HD14 := Lib.hid (HD12.out.below b14)
  have HB14 := Lib.hid (HB12.out.trans (b14.mono HB12.out.size))
  clear hq hb b14 C HG12 HY12 HC12 HD12 HB12 HB13 HW13 HF12 HX12
  have C := Lib.hid (all_any HG14.out)
  go_wp2_with fail
  refine C.out.mono ?_
  rintro e w15 ⟨f, rfl, hf, hb⟩
  clear C
  obtain ⟨ho, hc, hfv⟩ := hf.slice
  rw [vals_length, List.length_set, HN.out] at hfv
  subst hfv
  have C := Lib.hid (sameInts_any _ _ _ _ (l.set k vb) w15 hf (HY14.out.below hb) (by rw [List.length_set, HN.out]; omega))
  have HW15 := Lib.hid hb
  clear hf hb
  go_wp2_with fail
  refine C.out.mono ?_
  rintro e w16 ⟨rfl, nq16, hq⟩
  have hb : Below w15.heap.size w15 w16 := by rw [hq]; exact bk_below_drewN _ _ _
  have b16 := HW15.out.trans (hb.mono HW15.out.size)
  have hC := HC14.out.below b16
  have hD := HD14.out.below b16
  have HB16 := Lib.hid (HB14.out.trans (b16.mono HB14.out.size))
  obtain ⟨gc, cc, e, _⟩ := owns_slice hC (by simp)
  subst e
  obtain ⟨gd, cd, e, _⟩ := owns_slice hD (by simp)
  subst e
  have k1 := (owns_at hC (j := 0) (by simp)).1
  have k2 := (owns_at hD (j := 0) (by simp)).1
  simp only [List.getElem_cons_zero] at k1 k2
  clear hq hb b16 C hC hD HG14 HY14 HC14 HD14 HB14 HW15
  go_wp2
  go_ret
  exact ⟨rfl, HB16.out⟩
theorem walk (v : Value) (l : List Int) (a va b vb : Int) (W : World) (hl : Reads W v l ∧ ∀ x ∈ l, (Lit.int .i64 x).wf = true) (w1 : (Lit.int .i64 a).wf = true) (w2 : (Lit.int .i64 va).wf = true) (w3 : (Lit.int .i64 b).wf = true) (w4 : (Lit.int .i64 vb).wf = true) :
    Calls Try.prog 5 #[v, .int .i64 a, .int .i64 va, .int .i64 b, .int .i64 vb] W (Yes W) := by
  have hr := hl.1
  by_cases h0 : l.length = 0
  · obtain ⟨vo, vc, rfl, _⟩ := hr
    rw [h0]
    have C := Lib.hid (alive_any W)
    clear hl h0
    go_enter Try.func5, Try.ntmps5
    go_wp2_with fail
    refine C.out.mono ?_
    rintro e w1 ⟨rfl, hb⟩
    have HB := Lib.hid hb
    clear hb C
    go_wp2
    go_ret
    exact ⟨rfl, HB.out⟩
  · by_cases h1 : 200 < l.length
    · obtain ⟨vo, vc, rfl, _⟩ := hr
      obtain ⟨n, hn⟩ : ∃ n, l.length = n := ⟨_, rfl⟩
      rw [hn] at h0 h1 ⊢
      have C := Lib.hid (alive_any W)
      have hn0 : ((n : Int) == 0) = false := by simp; omega
      have hn1 : decide (200 < (n : Int)) = true := by simp; omega
      clear hl hn h0 h1
      go_enter Try.func5, Try.ntmps5
      go_wp2_with fail
      refine C.out.mono ?_
      rintro e w1 ⟨rfl, hb⟩
      have HB := Lib.hid hb
      clear hb C
      go_wp2
      go_ret
      exact ⟨rfl, HB.out⟩
    · exact main v l a va b vb W hr (by omega) (by omega)
end Go.Proofs.Ytifcjcheokkojaa.FieldCopies
