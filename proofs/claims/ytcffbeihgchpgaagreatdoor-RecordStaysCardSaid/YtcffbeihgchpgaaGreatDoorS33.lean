/- The document's own step (chapter 9): whatever it reads. -/
import Derived.Test.YtcffbeihgchpgaaGreatDoorS30
import Derived.Test.YtcffbeihgchpgaaGreatDoorS31
import Derived.Test.YtcffbeihgchpgaaGreatDoorS32
import Derived.Test.YtcffbeihgchpgaaGreatDoorS17
namespace Go.Proofs.YtcffbeihgchpgaaGreatDoor.Inn
open Go.RowKit Book Mem Mach
set_option linter.unusedVariables false
set_option linter.unusedSimpArgs false
theorem nat_op {a : Int} (h : isOp a) : ∃ k : Nat, k < 48 ∧ a = (k : Int) := ⟨a.toNat, by have := h.1; have := h.2; omega, by have := h.1; omega⟩
theorem exec_noarg {k : Nat} (hk : k < 48) (h : argOf k = false) (s : M) (i a b : Int) : exec k s i a = exec k s i b := by
  have h2 : k ≠ 2 ∧ k ≠ 3 ∧ k ≠ 4 ∧ k ≠ 37 ∧ k ≠ 38 := by
    simp only [argOf, decide_eq_false_iff_not] at h
    omega
  unfold exec
  split <;> first | rfl | omega
section
variable {W w : World} {g x r : Nat} {ip hh i : Int} {st bk me : List Int} {ou inn : ByteArray} {rd stt cd : Int} {vs0 vb0 vm0 : Value} {so bo mo : Option Addr} {n nb nm sc bc mc : Nat}
set_option maxHeartbeats 8000000 in
set_option maxRecDepth 1000000 in
theorem go_on (hS : SB W g x r (cells10 ip hh vs0 vb0 vm0 ou inn rd stt cd) (cells10 ip hh (.slice so n sc) (.slice bo nb bc) (.slice mo nm mc) ou inn rd stt cd) (.slice so n sc) (.slice bo nb bc) (.slice mo nm mc) st bk me w) (hn : st.length = n) (hnb : bk.length = nb) (hnm : me.length = nm) (l1 : n ≤ 48) (l2 : nb ≤ 48) (l3 : nm ≤ 3000) (rs : ReadsC W vs0 st) (rb : ReadsC W vb0 bk) (rm : ReadsC W vm0 me) (j0 : 0 ≤ ip) (j1 : ip < (nm : Int)) (rd0 : 0 ≤ rd) (rd1 : rd ≤ (inn.size : Int)) (ou1 : ou.size ≤ 2000) (in1 : inn.size ≤ maxLen) (cl : Cells ⟨ip, hh, st, bk, me, ou, inn, rd, stt, cd⟩) (h0 : stt = 0) (k : Nat) (hk : k < 48) (hck : me.getD ip.toNat 0 = (k : Int)) (arg : Int) (hna : ¬ (argOf k = true ∧ me.length ≤ ip.toNat + 1)) (hx : exec k ⟨ip, hh, st, bk, me, ou, inn, rd, stt, cd⟩ (ip + (if argOf k = true then 2 else 1)) (me.getD (ip.toNat + 1) 0) = exec k ⟨ip, hh, st, bk, me, ou, inn, rd, stt, cd⟩ (ip + (if argOf k = true then 2 else 1)) arg) :
    AtK 20 w g x r k arg (TellsK vs0 vb0 vm0 ⟨ip, hh, st, bk, me, ou, inn, rd, stt, cd⟩ (Mach.step ⟨ip, hh, st, bk, me, ou, inn, rd, stt, cd⟩) W) := by
  have hn64 : ¬ 64 ≤ (k : Int) := by omega
  have hin : ¬ ((k : Int) < 0 ∨ 48 ≤ (k : Int)) := by omega
  have haw : ¬ (ip < 0 ∨ (me.length : Int) ≤ ip) := by rw [hnm]; omega
  obtain ⟨⟨A, B, X, Y⟩, hmv⟩ : ∃ z, movesOf k = z := ⟨_, rfl⟩
  have hlo := moves_low k hk
  rw [hmv] at hlo
  simp only at hlo
  have hst : Mach.step ⟨ip, hh, st, bk, me, ou, inn, rd, stt, cd⟩ = if (st.length : Int) < A then Mach.fault ⟨ip, hh, st, bk, me, ou, inn, rd, stt, cd⟩ (-4) else if (bk.length : Int) < B then Mach.fault ⟨ip, hh, st, bk, me, ou, inn, rd, stt, cd⟩ (-6) else if 48 < (st.length : Int) - A + X then Mach.fault ⟨ip, hh, st, bk, me, ou, inn, rd, stt, cd⟩ (-3) else if 48 < (bk.length : Int) - B + Y then Mach.fault ⟨ip, hh, st, bk, me, ou, inn, rd, stt, cd⟩ (-5) else exec k ⟨ip, hh, st, bk, me, ou, inn, rd, stt, cd⟩ (ip + (if argOf k = true then 2 else 1)) (me.getD (ip.toNat + 1) 0) := by
    unfold Mach.step
    simp only [h0, ne_eq, not_true_eq_false, if_false, hck, if_neg haw, if_neg hn64, if_neg hin, Int.toNat_natCast, if_neg hna, hmv]
  rw [hst, hx, hn, hnb]
  clear hst hx hna haw
  unfold AtK
  intros
  refine at20 hS hn hnb hnm l1 l2 l3 rs rb rm j0 j1 rd0 rd1 ou1 in1 cl k hk hmv (fun w' hS' => ?_)
  by_cases c1 : (n : Int) < A
  · rw [if_pos c1]
    try (unfold AtL; intros)
    exact lack_under hS' hn hnb hnm l1 l2 l3 rs rb rm j0 j1 rd0 rd1 ou1 in1 cl k ⟨hlo.1, hlo.2.1⟩ ⟨hlo.2.2.1, hlo.2.2.2.1⟩ ⟨hlo.2.2.2.2.1, hlo.2.2.2.2.2.1⟩ ⟨hlo.2.2.2.2.2.2.1, hlo.2.2.2.2.2.2.2⟩ c1
  rw [if_neg c1]
  by_cases c2 : (nb : Int) < B
  · rw [if_pos c2]
    try (unfold AtL; intros)
    exact lack_back hS' hn hnb hnm l1 l2 l3 rs rb rm j0 j1 rd0 rd1 ou1 in1 cl k ⟨hlo.1, hlo.2.1⟩ ⟨hlo.2.2.1, hlo.2.2.2.1⟩ ⟨hlo.2.2.2.2.1, hlo.2.2.2.2.2.1⟩ ⟨hlo.2.2.2.2.2.2.1, hlo.2.2.2.2.2.2.2⟩ c1 c2
  rw [if_neg c2]
  by_cases c3 : 48 < (n : Int) - A + X
  · rw [if_pos c3]
    try (unfold AtL; intros)
    exact lack_over hS' hn hnb hnm l1 l2 l3 rs rb rm j0 j1 rd0 rd1 ou1 in1 cl k ⟨hlo.1, hlo.2.1⟩ ⟨hlo.2.2.1, hlo.2.2.2.1⟩ ⟨hlo.2.2.2.2.1, hlo.2.2.2.2.2.1⟩ ⟨hlo.2.2.2.2.2.2.1, hlo.2.2.2.2.2.2.2⟩ c1 c2 c3
  rw [if_neg c3]
  by_cases c4 : 48 < (nb : Int) - B + Y
  · rw [if_pos c4]
    try (unfold AtL; intros)
    exact lack_full hS' hn hnb hnm l1 l2 l3 rs rb rm j0 j1 rd0 rd1 ou1 in1 cl k ⟨hlo.1, hlo.2.1⟩ ⟨hlo.2.2.1, hlo.2.2.2.1⟩ ⟨hlo.2.2.2.2.1, hlo.2.2.2.2.2.1⟩ ⟨hlo.2.2.2.2.2.2.1, hlo.2.2.2.2.2.2.2⟩ c1 c2 c3 c4
  rw [if_neg c4]
  try (unfold AtL; intros)
  obtain ⟨P, hP⟩ : ∃ P : Nat, (P : Int) + A = (n : Int) := ⟨((n : Int) - A).toNat, by omega⟩
  refine lack_none hS' hn hnb hnm l1 l2 l3 rs rb rm j0 j1 rd0 rd1 ou1 in1 cl k A ⟨hlo.1, hlo.2.1⟩ ⟨hlo.2.2.1, hlo.2.2.2.1⟩ ⟨hlo.2.2.2.2.1, hlo.2.2.2.2.2.1⟩ ⟨hlo.2.2.2.2.2.2.1, hlo.2.2.2.2.2.2.2⟩ c1 c2 c3 c4 (fun v12 v13 v14 => ?_)
  have hA : (movesOf k).1 = A := by rw [hmv]
  have hB : (movesOf k).2.1 = B := by rw [hmv]
  rw [← hA] at hP ⊢
  have hb' : (movesOf k).2.1 ≤ (nb : Int) := by rw [hB]; omega
  try (unfold At; intros)
  rcases (by omega : n = 0 ∨ n = 1 ∨ n = 2 ∨ 3 ≤ n) with e | e | e | e
  · exact at30_0 hS' hn hnb hnm l1 l2 l3 rs rb rm j0 j1 rd0 rd1 ou1 in1 cl k hk P hP hb' e v12 v13 v14
  · exact at30_1 hS' hn hnb hnm l1 l2 l3 rs rb rm j0 j1 rd0 rd1 ou1 in1 cl k hk P hP hb' e v12 v13 v14
  · exact at30_2 hS' hn hnb hnm l1 l2 l3 rs rb rm j0 j1 rd0 rd1 ou1 in1 cl k hk P hP hb' e v12 v13 v14
  · exact at30_3 hS' hn hnb hnm l1 l2 l3 rs rb rm j0 j1 rd0 rd1 ou1 in1 cl k hk P hP hb' (n - 3) (by omega) v12 v13 v14
set_option maxHeartbeats 8000000 in
set_option maxRecDepth 1000000 in
theorem head_any (hS : SB W g x r (cells10 ip hh vs0 vb0 vm0 ou inn rd stt cd) (cells10 ip hh (.slice so n sc) (.slice bo nb bc) (.slice mo nm mc) ou inn rd stt cd) (.slice so n sc) (.slice bo nb bc) (.slice mo nm mc) st bk me w) (hn : st.length = n) (hnb : bk.length = nb) (hnm : me.length = nm) (l1 : n ≤ 48) (l2 : nb ≤ 48) (l3 : nm ≤ 3000) (rs : ReadsC W vs0 st) (rb : ReadsC W vb0 bk) (rm : ReadsC W vm0 me) (rd0 : 0 ≤ rd) (rd1 : rd ≤ (inn.size : Int)) (ou1 : ou.size ≤ 2000) (in1 : inn.size ≤ maxLen) (cl : Cells ⟨ip, hh, st, bk, me, ou, inn, rd, stt, cd⟩) (h0 : stt = 0) :
    AtH 4 w g x r (TellsK vs0 vb0 vm0 ⟨ip, hh, st, bk, me, ou, inn, rd, stt, cd⟩ (Mach.step ⟨ip, hh, st, bk, me, ou, inn, rd, stt, cd⟩) W) := by
  unfold AtH
  intros
  by_cases c1 : ip < 0
  · rw [show Mach.step ⟨ip, hh, st, bk, me, ou, inn, rd, stt, cd⟩ = Mach.fault ⟨ip, hh, st, bk, me, ou, inn, rd, stt, cd⟩ (-9) from by unfold Mach.step; simp only [h0, ne_eq, not_true_eq_false, if_false]; rw [if_pos (Or.inl c1)]]
    exact head_low hS hn hnb hnm l1 l2 l3 rs rb rm rd0 rd1 ou1 in1 cl c1
  by_cases c2 : (nm : Int) ≤ ip
  · rw [show Mach.step ⟨ip, hh, st, bk, me, ou, inn, rd, stt, cd⟩ = Mach.fault ⟨ip, hh, st, bk, me, ou, inn, rd, stt, cd⟩ (-9) from by unfold Mach.step; simp only [h0, ne_eq, not_true_eq_false, if_false]; rw [if_pos (Or.inr (by rw [hnm]; exact c2))]]
    exact head_high hS hn hnb hnm l1 l2 l3 rs rb rm rd0 rd1 ou1 in1 cl c1 c2
  have j0 : 0 ≤ ip := Int.not_lt.1 c1
  have j1 : ip < (nm : Int) := Int.not_le.1 c2
  have haw : ¬ (ip < 0 ∨ (me.length : Int) ≤ ip) := by rw [hnm]; omega
  obtain ⟨c, hcc⟩ : ∃ c, me.getD ip.toNat 0 = c := ⟨_, rfl⟩
  have hc : ∀ {J : Nat}, (J : Int) = ip → me[J]? = some c := by
    intro J hJ
    rw [← hcc, ← hJ, Int.toNat_natCast, List.getD_eq_getElem?_getD, List.getElem?_eq_getElem (by omega)]
    rfl
  by_cases c3 : 64 ≤ c
  · by_cases c4 : 48 ≤ nb
    · rw [show Mach.step ⟨ip, hh, st, bk, me, ou, inn, rd, stt, cd⟩ = Mach.fault ⟨ip, hh, st, bk, me, ou, inn, rd, stt, cd⟩ (-5) from by unfold Mach.step; simp only [h0, ne_eq, not_true_eq_false, if_false, hcc]; rw [if_neg haw, if_pos c3, if_pos (by rw [hnb]; exact c4)]]
      exact head_callfull hS hn hnb hnm l1 l2 l3 rs rb rm j0 j1 rd0 rd1 ou1 in1 cl hc c3 c4
    · rw [show Mach.step ⟨ip, hh, st, bk, me, ou, inn, rd, stt, cd⟩ = (⟨c, hh, st, bk ++ [ip + 1], me, ou, inn, rd, stt, cd⟩ : M) from by unfold Mach.step; simp only [h0, ne_eq, not_true_eq_false, if_false, hcc]; rw [if_neg haw, if_pos c3, if_neg (by rw [hnb]; exact c4), show wrap64 (ip + 1) = ip + 1 by unfold wrap64; omega]]
      exact head_call hS hn hnb hnm l1 l2 l3 rs rb rm j0 j1 rd0 rd1 ou1 in1 cl hc c3 c4
  by_cases c5 : isOp c
  · obtain ⟨k, hk, rfl⟩ := nat_op c5
    cases ha : argOf k with
    | true =>
      by_cases c6 : (nm : Int) ≤ ip + 1
      · rw [show Mach.step ⟨ip, hh, st, bk, me, ou, inn, rd, stt, cd⟩ = Mach.fault ⟨ip, hh, st, bk, me, ou, inn, rd, stt, cd⟩ (-9) from by unfold Mach.step; simp only [h0, ne_eq, not_true_eq_false, if_false, hcc]; rw [if_neg haw, if_neg c3, if_neg (by omega), if_pos ⟨by rw [Int.toNat_natCast]; exact ha, by omega⟩]]
        exact head_noarg hS hn hnb hnm l1 l2 l3 rs rb rm j0 j1 rd0 rd1 ou1 in1 cl hc k hk rfl ha c6
      · refine head_arg hS hn hnb hnm l1 l2 l3 rs rb rm j0 j1 rd0 rd1 ou1 in1 cl hc k hk rfl ha (me.getD (ip.toNat + 1) 0) ?_ (Int.not_le.1 c6) ?_
        · intro J hJ
          rw [show ip.toNat + 1 = J by omega, List.getD_eq_getElem?_getD, List.getElem?_eq_getElem (by omega)]
          rfl
        · try (unfold AtK; intros)
          exact go_on hS hn hnb hnm l1 l2 l3 rs rb rm j0 j1 rd0 rd1 ou1 in1 cl h0 k hk hcc _ (fun h => by have := h.2; omega) rfl
    | false =>
      refine head_op hS hn hnb hnm l1 l2 l3 rs rb rm j0 j1 rd0 rd1 ou1 in1 cl hc k hk rfl ha ?_
      try (unfold AtK; intros)
      exact go_on hS hn hnb hnm l1 l2 l3 rs rb rm j0 j1 rd0 rd1 ou1 in1 cl h0 k hk hcc 0 (fun h => by rw [ha] at h; exact absurd h.1 (by decide)) (exec_noarg hk ha _ _ _ _)
  · rw [show Mach.step ⟨ip, hh, st, bk, me, ou, inn, rd, stt, cd⟩ = Mach.fault ⟨ip, hh, st, bk, me, ou, inn, rd, stt, cd⟩ (-13) from by unfold Mach.step; simp only [h0, ne_eq, not_true_eq_false, if_false, hcc]; rw [if_neg haw, if_neg c3, if_pos (by unfold isOp at c5; omega)]]
    exact head_none hS hn hnb hnm l1 l2 l3 rs rb rm j0 j1 rd0 rd1 ou1 in1 cl hc c3 c5
end
end Go.Proofs.YtcffbeihgchpgaaGreatDoor.Inn
/- The document's own step (chapter 9): whole. -/
namespace Go.Proofs.YtcffbeihgchpgaaGreatDoor.Inn
open Go.RowKit Book Mem Mach
set_option linter.unusedVariables false
set_option linter.unusedSimpArgs false
set_option maxHeartbeats 8000000 in
set_option maxRecDepth 1000000 in
/-- a step of the document's own machine, whatever it is -/
theorem refStep_kin {w : World} {vs vb vm : Value} {m : M} (hs : ReadsC w vs m.stack) (hb : ReadsC w vb m.back) (hm : ReadsC w vm m.mem) (hr : Right m) (hc : Cells m) (hin : m.inp.size ≤ maxLen) :
    Calls Tryz.prog 18 #[stV m vs vb vm] w (TellsK vs vb vm m (Mach.step m) w) := by
  obtain ⟨ip, hh, st, bk, me, ou, inn, rd, stt, cd⟩ := m
  simp only at hs hb hm hin ⊢
  obtain ⟨w1, w2, g, r, hw1, hw2, hg, hr', HG, HR, HB0, HZ, HW⟩ := two_boxes w (cells10 ip hh vs vb vm ou inn rd stt cd)
  have HB := Lib.hid (show Below w.heap.size w w2 by have := HB0.out; rw [← HW.out] at this; exact this)
  by_cases h0 : stt = 0
  · subst h0
    have HRR := Lib.hid hr
    have HCC := Lib.hid (And.intro hc hin)
    have HRD := Lib.hid (And.intro hs (And.intro hb hm))
    have CC := Lib.hid (refCopy_any (m := ⟨ip, hh, st, bk, me, ou, inn, rd, 0, cd⟩) (readsM_of (hs.below HB.out) (hb.below HB.out) (hm.below HB.out)) (by have := hr.stack; show st.length ≤ 10000; have e : st.length ≤ 48 := this; omega) (by have e : bk.length ≤ 48 := hr.back; show bk.length ≤ 10000; omega) (by have e : me.length ≤ 3000 := hr.mem; show me.length ≤ 10000; omega))
    clear hs hb hm hr hc hin HB0
    go_enter Tryz.func18, Tryz.ntmps18
    go_upto_region 1 with fail
    clear hw1 hw2 hg hr'
    go_upto_region 3 with (first
      | (refine ld_int (by rfl) _ rfl _ rfl _ (whole_cell HG.out rfl) ?_))
    rename_i K9 hK9
    have HK9 := Lib.hid hK9
    clear hK9
    go_wp2_with (refine ld_state (by rfl) _ rfl _ rfl _ _ HG.out rfl ?_)
    refine CC.out.mono ?_
    rintro e w3 ⟨v, rfl, ⟨s1, s2, s3, rfl, ho⟩, hb3⟩
    obtain ⟨so, sc, e1⟩ := ho.st.slice
    obtain ⟨bo, bc, e2⟩ := ho.bk.slice
    obtain ⟨mo, mc, e3⟩ := ho.me.slice
    simp only [vals_length] at e1 e2 e3
    subst e1
    subst e2
    subst e3
    obtain ⟨w4, x, hw4, hx4, HX4, HB4, HGX⟩ := newBox w3 zero10 24
    have HO := Lib.hid (OwnsL.below ho HB4.out)
    have HB34 := Lib.hid (hb3.trans (HB4.out.mono hb3.size))
    have HG4 := Lib.hid (boxOn HG.out HB34.out)
    have HR4 := Lib.hid (boxOn HR.out HB34.out)
    have HN := Lib.hid (show w2.heap.size ≤ x by rw [← HGX.out]; exact hb3.size)
    have HGL := Lib.hid (And.intro (whole_lt HG.out) (whole_lt HR.out))
    clear ho hb3
    go_wp2_with (refine st_state (by rfl) _ _ rfl x _ rfl rfl _ _ HX4.out rfl rfl (all_one rfl rfl rfl) ?_; intro wf hrf htf; have HRF := Lib.hid hrf; have HTF := Lib.hid htf; clear hrf htf)
    have hSB : SB w g x r (cells10 ip hh vs vb vm ou inn rd 0 cd) (cells10 ip hh (.slice so st.length sc) (.slice bo bk.length bc) (.slice mo me.length mc) ou inn rd 0 cd) (.slice so st.length sc) (.slice bo bk.length bc) (.slice mo me.length mc) st bk me wf := by
      refine ⟨?_, ?_, HRF.out, ?_, ?_, ?_, ?_, HO.out.sb, HO.out.bm, ?_, ?_⟩
      · exact (HB.out.trans (HB34.out.mono HB.out.size)).trans (HTF.out.below (fun k hk => by rw [List.mem_singleton.1 hk]; have h1 := HN.out; have h2 := HB.out.size; omega) (Nat.le_trans HB.out.size HB34.out.size))
      · exact HTF.out.whole HG4.out (fun hm => by have h1 := List.mem_singleton.1 hm; have h2 := HN.out; have h3 := HGL.out.1; omega)
      · exact HTF.out.whole HR4.out (fun hm => by have h1 := List.mem_singleton.1 hm; have h2 := HN.out; have h3 := HGL.out.2; omega)
      · exact (own_box HO.out.st HTF.out HX4.out).from HB.out.size
      · exact (own_box HO.out.bk HTF.out HX4.out).from HB.out.size
      · exact (own_box HO.out.me HTF.out HX4.out).from HB.out.size
      · have h2 := HN.out
        have h3 := HGL.out
        have h4 := HZ.out
        exact ⟨by omega, by omega, by omega⟩
      · have h2 := HN.out
        have h3 := HB.out.size
        have h4 := HZ.out
        have h5 := HW.out
        exact ⟨by omega, by omega⟩
    refine HK9.out _ _ ?_
    refine AtH.use (j := 4) ?_
    unfold AtH
    intros
    exact head_any hSB rfl rfl rfl HRR.out.stack HRR.out.back HRR.out.mem HRD.out.1 HRD.out.2.1 HRD.out.2.2 HRR.out.read0 HRR.out.read1 HRR.out.out HCC.out.2 HCC.out.1 rfl
  · rw [show Mach.step (⟨ip, hh, st, bk, me, ou, inn, rd, stt, cd⟩ : M) = ⟨ip, hh, st, bk, me, ou, inn, rd, stt, cd⟩ from by unfold Mach.step; rw [if_pos h0]]
    obtain ⟨s1, n1, c1, rfl⟩ := reads_known hs
    obtain ⟨s2, n2, c2, rfl⟩ := reads_known hb
    obtain ⟨s3, n3, c3, rfl⟩ := reads_known hm
    clear hs hb hm hr hc hin HB0
    go_enter Tryz.func18, Tryz.ntmps18
    go_upto_region 1 with fail
    clear hw1 hw2 hg hr'
    go_wp2_with (first
      | (refine ld_int (by rfl) _ rfl _ rfl _ (whole_cell HG.out rfl) ?_)
      | (refine ld_state (by rfl) _ rfl _ rfl _ _ HG.out rfl ?_)
      | (refine st_state (by rfl) _ _ rfl r _ rfl rfl _ _ HR.out rfl rfl (all_one rfl rfl rfl) ?_; intro wf hrf htf; have HRF := Lib.hid hrf; have HTF := Lib.hid htf; clear hrf htf))
    refine bodyPost_ret (results_cell_row rfl _ _ r _ _ _ _ rfl HRF.out Tryz.underlying24 rfl state_size) rfl ?_
    exact fault_end (m := ⟨ip, hh, st, bk, me, ou, inn, rd, stt, cd⟩) rfl rfl rfl HB.out HTF.out HW.out HZ.out
end Go.Proofs.YtcffbeihgchpgaaGreatDoor.Inn
/- The document's own machine (chapter 9): a run. -/
namespace Go.Proofs.YtcffbeihgchpgaaGreatDoor.Inn
open Go.RowKit Book Mem Mach
set_option linter.unusedVariables false
set_option linter.unusedSimpArgs false
theorem Kin.trans {w wr wn : World} {v v1 v2 : Value} {xs x1 x2 : List Int} (h1 : Kin w wr v xs v1 x1) (h2 : Kin wr wn v1 x1 v2 x2) (hbw : Below w.heap.size w wr) (hb : Below wr.heap.size wr wn) : Kin w wn v xs v2 x2 := by
  rcases h2 with ⟨rfl, rfl⟩ | h2
  · rcases h1 with ⟨rfl, rfl⟩ | h1
    · exact .inl ⟨rfl, rfl⟩
    · exact .inr (h1.below hb)
  · exact .inr (h2.from hbw.size)
/-- what a run of the document's answers -/
def RanT (vs vb vm : Value) (m : M) (w : World) (r : M × Int) (e : Ending) (w' : World) : Prop := ∃ s1 n1 c1 s2 n2 c2 s3 n3 c3, e = .returned (.tuple #[stV r.1 (.slice s1 n1 c1) (.slice s2 n2 c2) (.slice s3 n3 c3), .int .i64 r.2]) ∧ KinM w w' vs vb vm m r.1 (.slice s1 n1 c1) (.slice s2 n2 c2) (.slice s3 n3 c3)
theorem KinM.refl {w w' : World} {vs vb vm : Value} {m : M} (hb : Below w.heap.size w w') : KinM w w' vs vb vm m m vs vb vm := ⟨.inl ⟨rfl, rfl⟩, .inl ⟨rfl, rfl⟩, .inl ⟨rfl, rfl⟩, hb⟩
theorem KinM.step {w wr wn wf : World} {g : Nat} {cs : Array Value} {vs vb vm v1 v2 v3 u1 u2 u3 : Value} {m m1 m2 : M} (h : KinM w wr vs vb vm m m1 v1 v2 v3) (k1 : Kin wr wn v1 m1.stack u1 m2.stack) (k2 : Kin wr wn v2 m1.back u2 m2.back) (k3 : Kin wr wn v3 m1.mem u3 m2.mem) (hb : Below wr.heap.size wr wn)
    (hg : wn.heap[g]? = some (.cells cs 24 (0, 0))) (hl : w.heap.size ≤ g) (ht : Stirred wn wf [g]) : KinM w wf vs vb vm m m2 u1 u2 u3 := by
  have hbw := h.2.2.2
  have hbn := hbw.trans (hb.mono hbw.size)
  exact ⟨(h.1.trans k1 hbw hb).box hg ht, (h.2.1.trans k2 hbw hb).box hg ht, (h.2.2.1.trans k3 hbw hb).box hg ht, hbn.trans (ht.below (fun k hk => by rw [List.mem_singleton.1 hk]; exact hl) hbn.size)⟩
theorem run_none {m : M} {n : Nat} (h : m.status ≠ 0 ∨ n = 0) : Mach.run n m = (m, n) := by
  rcases h with h | rfl
  · exact run_still h n
  · rfl
set_option maxHeartbeats 8000000 in
set_option maxRecDepth 100000 in
theorem refRun_nat {w : World} {vs vb vm : Value} {m : M} (hs : ReadsC w vs m.stack) (hb : ReadsC w vb m.back) (hm : ReadsC w vm m.mem) (hr : Right m) (hc : Cells m) (hin : m.inp.size ≤ maxLen) (n : Nat) (hn : n ≤ 9223372036854775807) :
    Calls Tryz.prog 31 #[stV m vs vb vm, .int .i64 n] w (RanT vs vb vm m w (runI m n)) := by
  rw [runI_nat]
  obtain ⟨s1, n1, c1, rfl⟩ := reads_known hs
  obtain ⟨s2, n2, c2, rfl⟩ := reads_known hb
  obtain ⟨s3, n3, c3, rfl⟩ := reads_known hm
  obtain ⟨w1, w2, g, r, hw1, hw2, hg, hr', HG, HR, HB0, HZ, HW⟩ := two_boxes w (cells10 m.ip m.handler (.slice s1 n1 c1) (.slice s2 n2 c2) (.slice s3 n3 c3) m.out m.inp m.read m.status m.code)
  have HBW := Lib.hid (show Below w.heap.size w w2 by have := HB0.out; rw [← HW.out] at this; exact this)
  have HRC := Lib.hid (And.intro hr (And.intro hc hin))
  have HRD := Lib.hid (And.intro hs (And.intro hb hm))
  have HGL := Lib.hid (show w.heap.size ≤ g ∧ w.heap.size ≤ r ∧ g ≠ r by have := HW.out; have := HZ.out; omega)
  clear hs hb hm hr hc hin HB0
  go_enter Tryz.func31, Tryz.ntmps31
  go_wp2_with fail
  go_loopg [1] n (fun z f wr => ∃ (k : Nat) (m1 : M) (t1 : Option Addr) (d1 e1 : Nat) (t2 : Option Addr) (d2 e2 : Nat) (t3 : Option Addr) (d3 e3 : Nat), k = z ∧ k ≤ n ∧ f = .int .i64 k ∧ Hid (wr.heap[g]? = some (.cells (cells10 m1.ip m1.handler (.slice t1 d1 e1) (.slice t2 d2 e2) (.slice t3 d3 e3) m1.out m1.inp m1.read m1.status m1.code) 24 (0, 0))) ∧ Hid (wr.heap[r]? = some (.cells zero10 24 (0, 0))) ∧ Hid (KinM w wr (.slice s1 n1 c1) (.slice s2 n2 c2) (.slice s3 n3 c3) m m1 (.slice t1 d1 e1) (.slice t2 d2 e2) (.slice t3 d3 e3)) ∧ Hid (Mach.run k m1 = Mach.run n m) ∧ Hid (Right m1) ∧ Hid (Cells m1) ∧ Hid (m1.inp = m.inp))
  case atStart => exact ⟨n, m, s1, n1, c1, s2, n2, c2, s3, n3, c3, rfl, Nat.le_refl _, rfl, HG, HR, Lib.hid (KinM.refl HBW.out), rfl, HRC.out.1, HRC.out.2.1, rfl⟩
  case round =>
    obtain ⟨k, m1, t1, d1, e1, t2, d2, e2, t3, d3, e3, rfl, hk, rfl, HGR, HRR, HKM, HRN, HR1, HC1, HI1⟩ := hrel
    obtain ⟨st1, hst1⟩ : ∃ z, m1.status = z := ⟨_, rfl⟩
    have HST1 := Lib.hid hst1
    have c8 : wr.cell? ⟨g, 8, none⟩ = some (.int .i64 st1) := by rw [← hst1]; exact whole_cell HGR.out rfl
    by_cases hgo : st1 = 0 ∧ 0 < k
    · obtain ⟨rfl, hk0⟩ := hgo
      obtain ⟨k', rfl⟩ : ∃ k', k = k' + 1 := ⟨k - 1, by omega⟩
      have S := Lib.hid (refStep_kin (HKM.out.1.reads HRD.out.1 HKM.out.2.2.2) (HKM.out.2.1.reads HRD.out.2.1 HKM.out.2.2.2) (HKM.out.2.2.1.reads HRD.out.2.2 HKM.out.2.2.2) HR1.out HC1.out (by rw [HI1.out]; exact HRC.out.2.2))
      have HKR := Lib.hid (And.intro (HKM.out.1.reads HRD.out.1 HKM.out.2.2.2) (And.intro (HKM.out.2.1.reads HRD.out.2.1 HKM.out.2.2.2) (HKM.out.2.2.1.reads HRD.out.2.2 HKM.out.2.2.2)))
      have HRN2 := Lib.hid (show Mach.run k' (Mach.step m1) = Mach.run n m by rw [← HRN.out, run_go HST1.out])
      have HR2 := Lib.hid (step_right HR1.out)
      have HC2 := Lib.hid (step_cells HR1.out HC1.out)
      have HI2 := Lib.hid (show (Mach.step m1).inp = m.inp by rw [step_inp, HI1.out])
      clear hst1 HRN HR1 HC1 HI1
      go_wp2_with (refine ld_state (by rfl) _ rfl _ rfl _ _ HGR.out rfl ?_)
      refine S.out.mono ?_
      rintro e wn ⟨v1, v2, v3, rfl, k1, k2, k3, hbn⟩
      obtain ⟨u1, l1, i1, rfl⟩ := reads_known (k1.reads HKR.out.1 hbn)
      obtain ⟨u2, l2, i2, rfl⟩ := reads_known (k2.reads HKR.out.2.1 hbn)
      obtain ⟨u3, l3, i3, rfl⟩ := reads_known (k3.reads HKR.out.2.2 hbn)
      have HK3 := Lib.hid (And.intro k1 (And.intro k2 (And.intro k3 hbn)))
      have HGN := Lib.hid (boxOn HGR.out hbn)
      have HRX := Lib.hid (boxOn HRR.out hbn)
      clear k1 k2 k3 hbn S c8
      go_wp2_with (refine st_state (by rfl) _ _ rfl g _ rfl rfl _ _ HGN.out rfl rfl (all_one rfl rfl rfl) ?_; intro wf hrf htf; have HGF := Lib.hid hrf; have HTF := Lib.hid htf; clear hrf htf)
      have HKF := Lib.hid (HKM.out.step HK3.out.1 HK3.out.2.1 HK3.out.2.2.1 HK3.out.2.2.2 HGN.out HGL.out.1 HTF.out)
      have HRF := Lib.hid (box_other HTF.out HRX.out (by have := HGL.out.2.2; omega))
      go_roundg k'
      case measure => omega
      case rel => exact ⟨k', Mach.step m1, u1, l1, i1, u2, l2, i2, u3, l3, i3, rfl, by omega, by go_num, HGF, HRF, HKF, HRN2, HR2, HC2, HI2⟩
    · have HST := Lib.hid (show Mach.run n m = (m1, k) by
        rw [← HRN.out]
        exact run_none (by rw [hst1]; omega))
      clear HRN HR1 HC1 HI1 hst1
      by_cases h0 : st1 = 0
      · have hk1 : ¬ (0 : Int) < (k : Int) := by omega
        subst h0
        clear hgo
        go_wp2_with (first
          | (refine ld_state (by rfl) _ rfl _ rfl _ _ HGR.out rfl ?_)
          | (refine st_state (by rfl) _ _ rfl r _ rfl rfl _ _ HRR.out rfl rfl (all_one rfl rfl rfl) ?_; intro wf hrf htf; have HRF := Lib.hid hrf; have HTF := Lib.hid htf; clear hrf htf))
        refine bodyPost_ret (results_state_tmp rfl _ _ r _ rfl (load_state HRF.out rfl)) rfl ?_
        rw [HST.out]
        have hk := HKM.out
        exact ⟨t1, d1, e1, t2, d2, e2, t3, d3, e3, rfl, hk.1.box HRR.out HTF.out, hk.2.1.box HRR.out HTF.out, hk.2.2.1.box HRR.out HTF.out, hk.2.2.2.trans (HTF.out.below (fun k hk => by rw [List.mem_singleton.1 hk]; exact HGL.out.2.1) hk.2.2.2.size)⟩
      · have h1 : (st1 == 0) = false := by simpa using h0
        clear hgo h0
        go_wp2_with (first
          | (refine ld_state (by rfl) _ rfl _ rfl _ _ HGR.out rfl ?_)
          | (refine st_state (by rfl) _ _ rfl r _ rfl rfl _ _ HRR.out rfl rfl (all_one rfl rfl rfl) ?_; intro wf hrf htf; have HRF := Lib.hid hrf; have HTF := Lib.hid htf; clear hrf htf))
        refine bodyPost_ret (results_state_tmp rfl _ _ r _ rfl (load_state HRF.out rfl)) rfl ?_
        rw [HST.out]
        have hk := HKM.out
        exact ⟨t1, d1, e1, t2, d2, e2, t3, d3, e3, rfl, hk.1.box HRR.out HTF.out, hk.2.1.box HRR.out HTF.out, hk.2.2.1.box HRR.out HTF.out, hk.2.2.2.trans (HTF.out.below (fun k hk => by rw [List.mem_singleton.1 hk]; exact HGL.out.2.1) hk.2.2.2.size)⟩
end Go.Proofs.YtcffbeihgchpgaaGreatDoor.Inn
/- The document's own machine (chapter 9): a run without fuel, and with whatever fuel; package inner's with whatever fuel. -/
namespace Go.Proofs.YtcffbeihgchpgaaGreatDoor.Inn
open Go.RowKit Book Mem Mach
set_option linter.unusedVariables false
set_option linter.unusedSimpArgs false
set_option maxHeartbeats 8000000 in
set_option maxRecDepth 100000 in
theorem refRun_neg {w : World} {vs vb vm : Value} {m : M} (hs : ReadsC w vs m.stack) (hb : ReadsC w vb m.back) (hm : ReadsC w vm m.mem) (f : Int) (hf : f < 0) :
    Calls Tryz.prog 31 #[stV m vs vb vm, .int .i64 f] w (RanT vs vb vm m w (m, f)) := by
  obtain ⟨s1, n1, c1, rfl⟩ := reads_known hs
  obtain ⟨s2, n2, c2, rfl⟩ := reads_known hb
  obtain ⟨s3, n3, c3, rfl⟩ := reads_known hm
  obtain ⟨w1, w2, g, r, hw1, hw2, hg, hr', HG, HR, HB0, HZ, HW⟩ := two_boxes w (cells10 m.ip m.handler (.slice s1 n1 c1) (.slice s2 n2 c2) (.slice s3 n3 c3) m.out m.inp m.read m.status m.code)
  have HBW := Lib.hid (show Below w.heap.size w w2 by have := HB0.out; rw [← HW.out] at this; exact this)
  have HGL := Lib.hid (show w.heap.size ≤ r by have := HW.out; have := HZ.out; omega)
  clear hs hb hm HB0
  have hf0 : ¬ 0 < f := by omega
  go_enter Tryz.func31, Tryz.ntmps31
  go_wp2_with fail
  go_loopg [1] 0 (fun z a wr => a = .int .i64 f ∧ wr = w2)
  case atStart => exact ⟨rfl, rfl⟩
  case round =>
    obtain ⟨rfl, rfl⟩ := hrel
    obtain ⟨st1, hst1⟩ : ∃ z, m.status = z := ⟨_, rfl⟩
    have c8 : wr.cell? ⟨g, 8, none⟩ = some (.int .i64 st1) := by rw [← hst1]; exact whole_cell HG.out rfl
    clear hst1
    by_cases h0 : st1 = 0
    · subst h0
      go_wp2_with (first
        | (refine ld_state (by rfl) _ rfl _ rfl _ _ HG.out rfl ?_)
        | (refine st_state (by rfl) _ _ rfl r _ rfl rfl _ _ HR.out rfl rfl (all_one rfl rfl rfl) ?_; intro wf hrf htf; have HRF := Lib.hid hrf; have HTF := Lib.hid htf; clear hrf htf))
      refine bodyPost_ret (results_state_tmp rfl _ _ r _ rfl (load_state HRF.out rfl)) rfl ?_
      have hbf := HBW.out.trans (HTF.out.below (fun k hk => by rw [List.mem_singleton.1 hk]; exact HGL.out) HBW.out.size)
      exact ⟨s1, n1, c1, s2, n2, c2, s3, n3, c3, rfl, KinM.refl hbf⟩
    · have h1 : (st1 == 0) = false := by simpa using h0
      clear h0
      go_wp2_with (first
        | (refine ld_state (by rfl) _ rfl _ rfl _ _ HG.out rfl ?_)
        | (refine st_state (by rfl) _ _ rfl r _ rfl rfl _ _ HR.out rfl rfl (all_one rfl rfl rfl) ?_; intro wf hrf htf; have HRF := Lib.hid hrf; have HTF := Lib.hid htf; clear hrf htf))
      refine bodyPost_ret (results_state_tmp rfl _ _ r _ rfl (load_state HRF.out rfl)) rfl ?_
      have hbf := HBW.out.trans (HTF.out.below (fun k hk => by rw [List.mem_singleton.1 hk]; exact HGL.out) HBW.out.size)
      exact ⟨s1, n1, c1, s2, n2, c2, s3, n3, c3, rfl, KinM.refl hbf⟩
theorem refRun_any {w : World} {vs vb vm : Value} {m : M} (hs : ReadsC w vs m.stack) (hb : ReadsC w vb m.back) (hm : ReadsC w vm m.mem) (hr : Right m) (hc : Cells m) (hin : m.inp.size ≤ maxLen) (f : Int) (hf : f ≤ 9223372036854775807) :
    Calls Tryz.prog 31 #[stV m vs vb vm, .int .i64 f] w (RanT vs vb vm m w (runI m f)) := by
  by_cases h : f < 0
  · rw [runI_neg h]; exact refRun_neg hs hb hm f h
  · obtain ⟨n, rfl⟩ := Int.eq_ofNat_of_zero_le (Int.not_lt.1 h)
    exact refRun_nat hs hb hm hr hc hin n (by omega)
end Go.Proofs.YtcffbeihgchpgaaGreatDoor.Inn
