/- The document's own step (chapter 9): ways of the switch (9). -/
import Derived.Test.YtcffbeihgchpgaaGreatDoorS20
namespace Go.Proofs.YtcffbeihgchpgaaGreatDoor.Inn
open Go.RowKit Book Mem Mach
set_option linter.unusedVariables false
set_option linter.unusedSimpArgs false
section
variable {W w : World} {g x r : Nat} {ip hh i arg : Int} {st bk me : List Int} {ou inn : ByteArray} {rd stt cd : Int} {vs0 vb0 vm0 : Value} {so bo mo : Option Addr} {n nb nm sc bc mc : Nat} {p q r3 : Int}
set_option maxHeartbeats 8000000 in
set_option maxRecDepth 1000000 in
theorem way43_no (h : Got W w g x r ip hh i st bk me ou inn rd stt cd vs0 vb0 vm0 so bo mo n nb nm sc bc mc p q r3) (hc : ¬ rd < (inn.size : Int)) :
    Way w g x r 43 arg n nb p q r3 (.slice so n sc) (TellsK vs0 vb0 vm0 ⟨ip, hh, st, bk, me, ou, inn, rd, stt, cd⟩ (exec 43 ⟨ip, hh, st, bk, me, ou, inn, rd, stt, cd⟩ i arg) W) := by
  have HGT := Lib.hid h
  have HS := Lib.hid h.sb
  have Lst := Lib.hid (And.intro h.hn h.l1)
  have Lbk := Lib.hid (And.intro h.hnb h.l2)
  have l4 : inn.size ≤ 9223372036854775807 := h.in1
  rw [show exec 43 ⟨ip, hh, st, bk, me, ou, inn, rd, stt, cd⟩ i arg = (⟨i, hh, st ++ [-1], bk, me, ou, inn, rd, stt, cd⟩ : M) from by simp only [exec, h.hp, h.hq, h.hr, if_neg hc]]
  obtain ⟨i0, q1, q2, q3, q4⟩ := int_facts
  have HI := Lib.hid (And.intro q1 (And.intro q2 (And.intro q3 q4)))
  clear q1 q2 q3 q4
  clear h
  unfold Way
  intros
  conv => arg 2; whnf
  go_wp2_with (first
    | (refine wpList_lit (by rfl) _ _ 1 _ rfl [-1] i0 Tryz.underlying22 HI.out.1 HI.out.2.1 HI.out.2.2.1 (by simp) (by simp) rfl rfl ?_; intro gl wl hgl hol hbl; have HS := Lib.hid (HS.out.below hbl); have HOL := Lib.hid hol; clear hgl hol hbl)
    | (refine wpList_append_reads _ rfl _ _ 22 rfl W.heap.size 3 i0 (.int .i64 0) 8 Tryz.underlying22 HI.out.1 HI.out.2.1 HI.out.2.2.1 HI.out.2.2.2 rfl _ (vals (st)) rfl HS.out.st _ [-1] rfl (Reads.of_owns HOL.out) (by rw [vals_length, Lst.out.1]; have := Lst.out.2; unfold maxLen; simp only [List.length_cons, List.length_nil]; omega) (by rw [vals_length, Lst.out.1]; have := Lst.out.2; simp only [List.length_cons, List.length_nil]; omega) HS.out.hb.size ?_; intro vs wn ho _ ht hnw; have HS := Lib.hid (HS.out.app1 (st' := st ++ [-1]) (by rw [vals_append]; exact ho) ht hnw); obtain ⟨so, sc, ev⟩ := HS.out.st.slice; rw [vals_length, List.length_append, Lst.out.1] at ev; change vs = .slice so (n + 1) sc at ev; subst ev; have Lst := Lib.hid (And.intro (show (st ++ [-1]).length = n + 1 by rw [List.length_append, Lst.out.1]; rfl) (show n + 1 ≤ 96 by have := Lst.out.2; omega)); clear ho ht hnw)
    | (refine ld_int (by rfl) _ rfl _ rfl _ (whole_cell HS.out.hx rfl) ?_)
    | (refine ld_str (by rfl) _ rfl _ rfl _ (whole_cell HS.out.hx rfl) ?_)
    | (refine ld_state (by rfl) _ rfl _ rfl _ _ HS.out.hx rfl ?_)
    | (refine ld_ints (by rfl) _ rfl _ rfl _ (whole_cell HS.out.hx rfl) ?_)
    | (refine st_ints (by rfl) _ _ rfl x _ rfl _ rfl rfl _ _ HS.out.hx (Nat.le_of_ble_eq_true rfl) ?_; intro wn hx ht; have HS := Lib.hid (HS.out.set hx ht); clear hx ht)
    | (refine st_state (by rfl) _ _ rfl r _ rfl rfl _ _ HS.out.hr rfl rfl (all_one rfl rfl rfl) ?_; intro wf hrf htf; have HRF := Lib.hid hrf; have HTF := Lib.hid htf; clear hrf htf))
  refine bodyPost_ret (results_cell_row rfl _ _ r _ _ _ _ rfl HRF.out Tryz.underlying24 rfl state_size) rfl ?_
  exact SB.gives (m := ⟨i, hh, st ++ [-1], bk, me, ou, inn, rd, stt, cd⟩) (vs := (.slice so (n + 1) sc)) (vb := (.slice bo nb bc)) (vm := (.slice mo nm mc)) HS.out HTF.out
set_option maxHeartbeats 8000000 in
set_option maxRecDepth 1000000 in
theorem way43_yes (h : Got W w g x r ip hh i st bk me ou inn rd stt cd vs0 vb0 vm0 so bo mo n nb nm sc bc mc p q r3) (R : Nat) (hR : rd = (R : Int)) (hR1 : R < inn.size) (byt : UInt8) (hby : inn[R] = byt) :
    Way w g x r 43 arg n nb p q r3 (.slice so n sc) (TellsK vs0 vb0 vm0 ⟨ip, hh, st, bk, me, ou, inn, rd, stt, cd⟩ (exec 43 ⟨ip, hh, st, bk, me, ou, inn, rd, stt, cd⟩ i arg) W) := by
  have HGT := Lib.hid h
  have HS := Lib.hid h.sb
  have Lst := Lib.hid (And.intro h.hn h.l1)
  have Lbk := Lib.hid (And.intro h.hnb h.l2)
  subst hR
  have l4 : inn.size ≤ 9223372036854775807 := h.in1
  have hc : (R : Int) < (inn.size : Int) := by omega
  have hD : inn.data.toList.getD R 0 = byt := by rw [← hby, List.getD_eq_getElem?_getD, List.getElem?_eq_getElem (by simpa using hR1)]; rfl
  have e8 : wrap64 ((byt.toNat : Nat) : Int) = ((byt.toNat : Nat) : Int) := by have := byt.toNat_lt; unfold wrap64; omega
  have y0 : (0 : Int) ≤ (R : Int) := Int.natCast_nonneg _
  rw [show exec 43 ⟨ip, hh, st, bk, me, ou, inn, (R : Int), stt, cd⟩ i arg = (⟨i, hh, st ++ [((byt.toNat : Nat) : Int)], bk, me, ou, inn, ((R : Int) + 1), stt, cd⟩ : M) from by rw [exec]; simp only [if_pos hc, Int.toNat_natCast, hD]]
  clear hD
  obtain ⟨i0, q1, q2, q3, q4⟩ := int_facts
  have HI := Lib.hid (And.intro q1 (And.intro q2 (And.intro q3 q4)))
  clear q1 q2 q3 q4
  clear h
  unfold Way
  intros
  conv => arg 2; whnf
  go_wp2_with (first
    | (refine wpList_lit (by rfl) _ _ 1 _ rfl [((byt.toNat : Nat) : Int)] i0 Tryz.underlying22 HI.out.1 HI.out.2.1 HI.out.2.2.1 (by simp) (by simp) rfl rfl ?_; intro gl wl hgl hol hbl; have HS := Lib.hid (HS.out.below hbl); have HOL := Lib.hid hol; clear hgl hol hbl)
    | (refine wpList_append_reads _ rfl _ _ 22 rfl W.heap.size 3 i0 (.int .i64 0) 8 Tryz.underlying22 HI.out.1 HI.out.2.1 HI.out.2.2.1 HI.out.2.2.2 rfl _ (vals (st)) rfl HS.out.st _ [((byt.toNat : Nat) : Int)] rfl (Reads.of_owns HOL.out) (by rw [vals_length, Lst.out.1]; have := Lst.out.2; unfold maxLen; simp only [List.length_cons, List.length_nil]; omega) (by rw [vals_length, Lst.out.1]; have := Lst.out.2; simp only [List.length_cons, List.length_nil]; omega) HS.out.hb.size ?_; intro vs wn ho _ ht hnw; have HS := Lib.hid (HS.out.app1 (st' := st ++ [((byt.toNat : Nat) : Int)]) (by rw [vals_append]; exact ho) ht hnw); obtain ⟨so, sc, ev⟩ := HS.out.st.slice; rw [vals_length, List.length_append, Lst.out.1] at ev; change vs = .slice so (n + 1) sc at ev; subst ev; have Lst := Lib.hid (And.intro (show (st ++ [((byt.toNat : Nat) : Int)]).length = n + 1 by rw [List.length_append, Lst.out.1]; rfl) (show n + 1 ≤ 96 by have := Lst.out.2; omega)); clear ho ht hnw)
    | (refine ld_int (by rfl) _ rfl _ rfl _ (whole_cell HS.out.hx rfl) ?_)
    | (refine ld_str (by rfl) _ rfl _ rfl _ (whole_cell HS.out.hx rfl) ?_)
    | (refine st_int (by rfl) _ _ rfl x _ rfl _ rfl rfl _ _ HS.out.hx (Nat.le_of_ble_eq_true rfl) ?_; intro wn hx ht; have HS := Lib.hid (HS.out.set hx ht); clear hx ht)
    | (refine ld_state (by rfl) _ rfl _ rfl _ _ HS.out.hx rfl ?_)
    | (refine ld_ints (by rfl) _ rfl _ rfl _ (whole_cell HS.out.hx rfl) ?_)
    | (refine st_ints (by rfl) _ _ rfl x _ rfl _ rfl rfl _ _ HS.out.hx (Nat.le_of_ble_eq_true rfl) ?_; intro wn hx ht; have HS := Lib.hid (HS.out.set hx ht); clear hx ht)
    | (refine st_state (by rfl) _ _ rfl r _ rfl rfl _ _ HS.out.hr rfl rfl (all_one rfl rfl rfl) ?_; intro wf hrf htf; have HRF := Lib.hid hrf; have HTF := Lib.hid htf; clear hrf htf))
  refine bodyPost_ret (results_cell_row rfl _ _ r _ _ _ _ rfl HRF.out Tryz.underlying24 rfl state_size) rfl ?_
  exact SB.gives (m := ⟨i, hh, st ++ [((byt.toNat : Nat) : Int)], bk, me, ou, inn, ((R : Int) + 1), stt, cd⟩) (vs := (.slice so (n + 1) sc)) (vb := (.slice bo nb bc)) (vm := (.slice mo nm mc)) HS.out HTF.out
end
end Go.Proofs.YtcffbeihgchpgaaGreatDoor.Inn
/- The document's own step (chapter 9): ways of the switch (A). -/
namespace Go.Proofs.YtcffbeihgchpgaaGreatDoor.Inn
open Go.RowKit Book Mem Mach
set_option linter.unusedVariables false
set_option linter.unusedSimpArgs false
section
variable {W w : World} {g x r : Nat} {ip hh i arg : Int} {st bk me : List Int} {ou inn : ByteArray} {rd stt cd : Int} {vs0 vb0 vm0 : Value} {so bo mo : Option Addr} {n nb nm sc bc mc : Nat} {p q r3 : Int}
set_option maxHeartbeats 8000000 in
set_option maxRecDepth 1000000 in
theorem way41 (h : Got W w g x r ip hh i st bk me ou inn rd stt cd vs0 vb0 vm0 so bo mo n nb nm sc bc mc p q r3) (P : Nat) (hP : P + 1 = n) (ic : Cell.In p) (H : ou.size + 1 ≤ 2000) :
    Way w g x r 41 arg n nb p q r3 (.slice so P sc) (TellsK vs0 vb0 vm0 ⟨ip, hh, st, bk, me, ou, inn, rd, stt, cd⟩ (exec 41 ⟨ip, hh, st, bk, me, ou, inn, rd, stt, cd⟩ i arg) W) := by
  have HGT := Lib.hid h
  have HS := Lib.hid (h.sb.cut1 (P := P) (by rw [h.hn]; omega))
  have Lst := Lib.hid (And.intro (less_take_length h.hn hP) (show P ≤ 48 by have := h.l1; omega))
  have hl : less st 1 = st.take P := less_take h.hn hP
  have Lbk := Lib.hid (And.intro h.hnb h.l2)
  rw [show exec 41 ⟨ip, hh, st, bk, me, ou, inn, rd, stt, cd⟩ i arg = (⟨i, hh, st.take P, bk, me, ou ++ ⟨#[UInt8.ofNat (p % 256).toNat]⟩, inn, rd, stt, cd⟩ : M) from by simp only [exec, h.hp, h.hq, h.hr, hl, if_neg (show ¬ 2000 < ou.size + 1 by omega)]]
  have ha := and255 p
  have hmm : p % 256 % 256 = p % 256 := by omega
  obtain ⟨w1, gl, hw1, hgl, hcv, HB1⟩ := byteBox w (p % 256)
  have HS := Lib.hid (HS.out.below HB1.out)
  obtain ⟨no, hno⟩ : ∃ k, ou.size = k := ⟨_, rfl⟩
  rw [hno] at H
  have H1 : decide (2000 < (no : Int) + 1) = false := decide_eq_false (by omega)
  obtain ⟨i0, q1, q2, q3, q4⟩ := int_facts
  have HI := Lib.hid (And.intro q1 (And.intro q2 (And.intro q3 q4)))
  clear q1 q2 q3 q4
  clear hP
  clear h
  unfold Way
  intros
  conv => arg 2; whnf
  go_wp2_with (first
    | (refine ld_str (by rfl) _ rfl _ rfl _ (whole_cell HS.out.hx rfl) ?_)
    | (refine st_ints (by rfl) _ _ rfl x _ rfl _ rfl rfl _ _ HS.out.hx (Nat.le_of_ble_eq_true rfl) ?_; intro wn hx ht; have HS := Lib.hid (HS.out.set hx ht); clear hx ht)
    | (refine st_str (by rfl) _ _ rfl x _ rfl _ rfl rfl _ _ HS.out.hx (Nat.le_of_ble_eq_true rfl) ?_; intro wn hx ht; have HS := Lib.hid (HS.out.set hx ht); clear hx ht)
    | (refine ld_state (by rfl) _ rfl _ rfl _ _ HS.out.hx rfl ?_)
    | (refine st_state (by rfl) _ _ rfl r _ rfl rfl _ _ HS.out.hr rfl rfl (all_one rfl rfl rfl) ?_; intro wf hrf htf; have HRF := Lib.hid hrf; have HTF := Lib.hid htf; clear hrf htf))
  refine bodyPost_ret (results_cell_row rfl _ _ r _ _ _ _ rfl HRF.out Tryz.underlying24 rfl state_size) rfl ?_
  exact SB.gives (m := ⟨i, hh, st.take P, bk, me, ou ++ ⟨#[UInt8.ofNat (p % 256).toNat]⟩, inn, rd, stt, cd⟩) (vs := (.slice so P sc)) (vb := (.slice bo nb bc)) (vm := (.slice mo nm mc)) HS.out HTF.out
set_option maxHeartbeats 8000000 in
set_option maxRecDepth 1000000 in
theorem way41_full (h : Got W w g x r ip hh i st bk me ou inn rd stt cd vs0 vb0 vm0 so bo mo n nb nm sc bc mc p q r3) (P : Nat) (hP : P + 1 = n) (ic : Cell.In p) (H : ¬ ou.size + 1 ≤ 2000) :
    Way w g x r 41 arg n nb p q r3 (.slice so P sc) (TellsK vs0 vb0 vm0 ⟨ip, hh, st, bk, me, ou, inn, rd, stt, cd⟩ (exec 41 ⟨ip, hh, st, bk, me, ou, inn, rd, stt, cd⟩ i arg) W) := by
  have HGT := Lib.hid h
  have HS := Lib.hid (h.sb.cut1 (P := P) (by rw [h.hn]; omega))
  have Lst := Lib.hid (And.intro (less_take_length h.hn hP) (show P ≤ 48 by have := h.l1; omega))
  have hl : less st 1 = st.take P := less_take h.hn hP
  have Lbk := Lib.hid (And.intro h.hnb h.l2)
  have FT := Lib.hid (fun wc (hw : Below W.heap.size W wc) => refFault_told (m := ⟨ip, hh, st, bk, me, ou, inn, rd, stt, cd⟩) h.rs h.rb h.rm (by show bk.length ≤ 48; rw [h.hnb]; exact h.l2) (by show st.length ≤ 48; rw [h.hn]; exact h.l1) hw (-57))
  have HLOW := Lib.hid h.sb.low.2
  rw [show exec 41 ⟨ip, hh, st, bk, me, ou, inn, rd, stt, cd⟩ i arg = (Mach.fault ⟨ip, hh, st, bk, me, ou, inn, rd, stt, cd⟩ (-57) : M) from by simp only [exec, h.hp, h.hq, h.hr, if_pos (show 2000 < ou.size + 1 by omega)]]
  have ha := and255 p
  have hmm : p % 256 % 256 = p % 256 := by omega
  obtain ⟨w1, gl, hw1, hgl, hcv, HB1⟩ := byteBox w (p % 256)
  have HS := Lib.hid (HS.out.below HB1.out)
  obtain ⟨no, hno⟩ : ∃ k, ou.size = k := ⟨_, rfl⟩
  rw [hno] at H
  have H1 : decide (2000 < (no : Int) + 1) = true := decide_eq_true (by omega)
  have H2 : no ≤ 2000 := by rw [← hno]; exact h.ou1
  obtain ⟨i0, q1, q2, q3, q4⟩ := int_facts
  have HI := Lib.hid (And.intro q1 (And.intro q2 (And.intro q3 q4)))
  clear q1 q2 q3 q4
  clear hP
  clear h
  unfold Way
  intros
  conv => arg 2; whnf
  go_wp2_with (first
    | (refine ld_str (by rfl) _ rfl _ rfl _ (whole_cell HS.out.hx rfl) ?_)
    | (refine ld_state (by rfl) _ rfl _ rfl _ _ HS.out.hg rfl ?_)
    | (go_at_call 50; refine (FT.out _ HS.out.hb).mono ?_; rintro e wn ⟨s1, n1, c1', s2, n2, c2', s3, n3, c3', rfl, hk, hb⟩; have HKM := Lib.hid hk; have HRR := Lib.hid (boxOn HS.out.hr hb); clear hk hb)
    | (refine st_state (by rfl) _ _ rfl r _ rfl rfl _ _ HRR.out rfl rfl (all_one rfl rfl rfl) ?_; intro wf hrf htf; have HRF := Lib.hid hrf; have HTF := Lib.hid htf; clear hrf htf))
  refine bodyPost_ret (results_cell_row rfl _ _ r _ _ _ _ rfl HRF.out Tryz.underlying24 rfl state_size) rfl ?_
  exact KinM.box HKM.out HRR.out HLOW.out HTF.out
set_option maxHeartbeats 8000000 in
set_option maxRecDepth 1000000 in
theorem way42 (h : Got W w g x r ip hh i st bk me ou inn rd stt cd vs0 vb0 vm0 so bo mo n nb nm sc bc mc p q r3) (P : Nat) (hP : P + 1 = n) (ic : Cell.In p) (H : ou.size + ((Lib.itoa p).length + 1) ≤ 2000) :
    Way w g x r 42 arg n nb p q r3 (.slice so P sc) (TellsK vs0 vb0 vm0 ⟨ip, hh, st, bk, me, ou, inn, rd, stt, cd⟩ (exec 42 ⟨ip, hh, st, bk, me, ou, inn, rd, stt, cd⟩ i arg) W) := by
  have HGT := Lib.hid h
  have HS := Lib.hid (h.sb.cut1 (P := P) (by rw [h.hn]; omega))
  have Lst := Lib.hid (And.intro (less_take_length h.hn hP) (show P ≤ 48 by have := h.l1; omega))
  have hl : less st 1 = st.take P := less_take h.hn hP
  have Lbk := Lib.hid (And.intro h.hnb h.l2)
  rw [show exec 42 ⟨ip, hh, st, bk, me, ou, inn, rd, stt, cd⟩ i arg = (⟨i, hh, st.take P, bk, me, ou ++ (⟨(Lib.itoa p).toArray⟩ ++ ⟨#[32]⟩), inn, rd, stt, cd⟩ : M) from by simp only [exec, h.hp, h.hq, h.hr, hl, if_neg (show ¬ 2000 < ou.size + ((Lib.itoa p).length + 1) by omega)]]
  have P10 := Lib.hid (fun wc => refPut_any p 10 ic.1 ic.2 wc)
  rw [putDot ic] at P10
  have hlen := itoa_len ic.1 ic.2
  have hsz : (⟨(Lib.itoa p).toArray⟩ : ByteArray).size = (Lib.itoa p).length := by simp [ByteArray.size]
  generalize Lib.itoa p = tl at *
  obtain ⟨tb, htb⟩ : ∃ tb : ByteArray, ⟨tl.toArray⟩ = tb := ⟨_, rfl⟩
  simp only [txt] at P10
  rw [htb] at P10 hsz
  try rw [htb]
  rw [← hsz] at H hlen
  obtain ⟨nt, hnt⟩ : ∃ n, tb.size = n := ⟨_, rfl⟩
  have ha := and255 p
  have hmm : p % 256 % 256 = p % 256 := by omega
  obtain ⟨w1, gl, hw1, hgl, hcv, HB1⟩ := byteBox w (p % 256)
  have HS := Lib.hid (HS.out.below HB1.out)
  obtain ⟨no, hno⟩ : ∃ k, ou.size = k := ⟨_, rfl⟩
  rw [hno, hnt] at H
  rw [hnt] at hlen
  clear hsz htb
  obtain ⟨i0, q1, q2, q3, q4⟩ := int_facts
  have HI := Lib.hid (And.intro q1 (And.intro q2 (And.intro q3 q4)))
  clear q1 q2 q3 q4
  clear hP
  clear h
  unfold Way
  intros
  conv => arg 2; whnf
  go_wp2_with (first
    | (refine ld_str (by rfl) _ rfl _ rfl _ (whole_cell HS.out.hx rfl) ?_)
    | (refine st_ints (by rfl) _ _ rfl x _ rfl _ rfl rfl _ _ HS.out.hx (Nat.le_of_ble_eq_true rfl) ?_; intro wn hx ht; have HS := Lib.hid (HS.out.set hx ht); clear hx ht)
    | (refine st_str (by rfl) _ _ rfl x _ rfl _ rfl rfl _ _ HS.out.hx (Nat.le_of_ble_eq_true rfl) ?_; intro wn hx ht; have HS := Lib.hid (HS.out.set hx ht); clear hx ht)
    | (refine ld_state (by rfl) _ rfl _ rfl _ _ HS.out.hx rfl ?_)
    | (refine st_state (by rfl) _ _ rfl r _ rfl rfl _ _ HS.out.hr rfl rfl (all_one rfl rfl rfl) ?_; intro wf hrf htf; have HRF := Lib.hid hrf; have HTF := Lib.hid htf; clear hrf htf)
    | (go_at_call 58; refine (P10.out _).mono ?_; rintro e wz ⟨rfl, hwz⟩; subst hwz))
  refine bodyPost_ret (results_cell_row rfl _ _ r _ _ _ _ rfl HRF.out Tryz.underlying24 rfl state_size) rfl ?_
  exact SB.gives (m := ⟨i, hh, st.take P, bk, me, ou ++ (tb ++ ⟨#[32]⟩), inn, rd, stt, cd⟩) (vs := (.slice so P sc)) (vb := (.slice bo nb bc)) (vm := (.slice mo nm mc)) HS.out HTF.out
set_option maxHeartbeats 8000000 in
set_option maxRecDepth 1000000 in
theorem way42_full (h : Got W w g x r ip hh i st bk me ou inn rd stt cd vs0 vb0 vm0 so bo mo n nb nm sc bc mc p q r3) (P : Nat) (hP : P + 1 = n) (ic : Cell.In p) (H : ¬ ou.size + ((Lib.itoa p).length + 1) ≤ 2000) :
    Way w g x r 42 arg n nb p q r3 (.slice so P sc) (TellsK vs0 vb0 vm0 ⟨ip, hh, st, bk, me, ou, inn, rd, stt, cd⟩ (exec 42 ⟨ip, hh, st, bk, me, ou, inn, rd, stt, cd⟩ i arg) W) := by
  have HGT := Lib.hid h
  have HS := Lib.hid (h.sb.cut1 (P := P) (by rw [h.hn]; omega))
  have Lst := Lib.hid (And.intro (less_take_length h.hn hP) (show P ≤ 48 by have := h.l1; omega))
  have hl : less st 1 = st.take P := less_take h.hn hP
  have Lbk := Lib.hid (And.intro h.hnb h.l2)
  have FT := Lib.hid (fun wc (hw : Below W.heap.size W wc) => refFault_told (m := ⟨ip, hh, st, bk, me, ou, inn, rd, stt, cd⟩) h.rs h.rb h.rm (by show bk.length ≤ 48; rw [h.hnb]; exact h.l2) (by show st.length ≤ 48; rw [h.hn]; exact h.l1) hw (-57))
  have HLOW := Lib.hid h.sb.low.2
  rw [show exec 42 ⟨ip, hh, st, bk, me, ou, inn, rd, stt, cd⟩ i arg = (Mach.fault ⟨ip, hh, st, bk, me, ou, inn, rd, stt, cd⟩ (-57) : M) from by simp only [exec, h.hp, h.hq, h.hr, if_pos (show 2000 < ou.size + ((Lib.itoa p).length + 1) by omega)]]
  have P10 := Lib.hid (fun wc => refPut_any p 10 ic.1 ic.2 wc)
  rw [putDot ic] at P10
  have hlen := itoa_len ic.1 ic.2
  have hsz : (⟨(Lib.itoa p).toArray⟩ : ByteArray).size = (Lib.itoa p).length := by simp [ByteArray.size]
  generalize Lib.itoa p = tl at *
  obtain ⟨tb, htb⟩ : ∃ tb : ByteArray, ⟨tl.toArray⟩ = tb := ⟨_, rfl⟩
  simp only [txt] at P10
  rw [htb] at P10 hsz
  try rw [htb]
  rw [← hsz] at H hlen
  obtain ⟨nt, hnt⟩ : ∃ n, tb.size = n := ⟨_, rfl⟩
  have ha := and255 p
  have hmm : p % 256 % 256 = p % 256 := by omega
  obtain ⟨w1, gl, hw1, hgl, hcv, HB1⟩ := byteBox w (p % 256)
  have HS := Lib.hid (HS.out.below HB1.out)
  obtain ⟨no, hno⟩ : ∃ k, ou.size = k := ⟨_, rfl⟩
  rw [hno, hnt] at H
  rw [hnt] at hlen
  clear hsz htb
  have H2 : no ≤ 2000 := by rw [← hno]; exact h.ou1
  obtain ⟨i0, q1, q2, q3, q4⟩ := int_facts
  have HI := Lib.hid (And.intro q1 (And.intro q2 (And.intro q3 q4)))
  clear q1 q2 q3 q4
  clear hP
  clear h
  unfold Way
  intros
  conv => arg 2; whnf
  go_wp2_with (first
    | (refine ld_str (by rfl) _ rfl _ rfl _ (whole_cell HS.out.hx rfl) ?_)
    | (go_at_call 58; refine (P10.out _).mono ?_; rintro e wz ⟨rfl, hwz⟩; subst hwz)
    | (refine ld_state (by rfl) _ rfl _ rfl _ _ HS.out.hg rfl ?_)
    | (go_at_call 50; refine (FT.out _ HS.out.hb).mono ?_; rintro e wn ⟨s1, n1, c1', s2, n2, c2', s3, n3, c3', rfl, hk, hb⟩; have HKM := Lib.hid hk; have HRR := Lib.hid (boxOn HS.out.hr hb); clear hk hb)
    | (refine st_state (by rfl) _ _ rfl r _ rfl rfl _ _ HRR.out rfl rfl (all_one rfl rfl rfl) ?_; intro wf hrf htf; have HRF := Lib.hid hrf; have HTF := Lib.hid htf; clear hrf htf))
  refine bodyPost_ret (results_cell_row rfl _ _ r _ _ _ _ rfl HRF.out Tryz.underlying24 rfl state_size) rfl ?_
  exact KinM.box HKM.out HRR.out HLOW.out HTF.out
end
end Go.Proofs.YtcffbeihgchpgaaGreatDoor.Inn
