/- The document's own step (chapter 9): ways of the switch (5). -/
import Derived.Test.YtcffbeihgchpgaaGreatDoorS20
namespace Go.Proofs.YtcffbeihgchpgaaGreatDoor.Inn
open Go.RowKit Book Mem Mach
set_option linter.unusedVariables false
set_option linter.unusedSimpArgs false
section
variable {W w : World} {g x r : Nat} {ip hh i arg : Int} {st bk me : List Int} {ou inn : ByteArray} {rd stt cd : Int} {vs0 vb0 vm0 : Value} {so bo mo : Option Addr} {n nb nm sc bc mc : Nat} {p q r3 : Int}
set_option maxHeartbeats 8000000 in
set_option maxRecDepth 1000000 in
theorem way30 (h : Got W w g x r ip hh i st bk me ou inn rd stt cd vs0 vb0 vm0 so bo mo n nb nm sc bc mc p q r3) (P : Nat) (hP : P + 1 = n) (J : Nat) (hJ : p = (J : Int)) (hJm : J < nm) :
    Way w g x r 30 arg n nb p q r3 (.slice so P sc) (TellsK vs0 vb0 vm0 ⟨ip, hh, st, bk, me, ou, inn, rd, stt, cd⟩ (exec 30 ⟨ip, hh, st, bk, me, ou, inn, rd, stt, cd⟩ i arg) W) := by
  have HGT := Lib.hid h
  have HS := Lib.hid (h.sb.cut1 (P := P) (by rw [h.hn]; omega))
  have Lst := Lib.hid (And.intro (less_take_length h.hn hP) (show P ≤ 48 by have := h.l1; omega))
  have hl : less st 1 = st.take P := less_take h.hn hP
  have Lbk := Lib.hid (And.intro h.hnb h.l2)
  obtain ⟨gm, cm, em, -⟩ := owns_slice h.sb.me (by rw [h.hnm]; omega)
  simp only [Value.slice.injEq] at em
  obtain ⟨rfl, -, rfl⟩ := em
  subst hJ
  obtain ⟨u, hu⟩ : ∃ u, me.getD J 0 = u := ⟨_, rfl⟩
  have HU := Lib.hid (show me[J]? = some u by rw [← hu, List.getD_eq_getElem?_getD, List.getElem?_eq_getElem (by rw [h.hnm]; exact hJm)]; rfl)
  have HJL := Lib.hid (show J < me.length by rw [h.hnm]; exact hJm)
  have hcond : ¬ ((J : Int) < 0 ∨ ((me.length : Nat) : Int) ≤ (J : Int)) := by rw [h.hnm]; omega
  have y0 : (0 : Int) ≤ (J : Int) := Int.natCast_nonneg _
  have y1 : (J : Int) < (nm : Int) := by omega
  have l3 := h.l3
  rw [show exec 30 ⟨ip, hh, st, bk, me, ou, inn, rd, stt, cd⟩ i arg = (⟨i, hh, st.take P ++ [u], bk, me, ou, inn, rd, stt, cd⟩ : M) from by simp only [exec, h.hp, h.hq, h.hr, if_neg hcond, hl, Int.toNat_natCast, hu]]
  clear hcond
  obtain ⟨i0, q1, q2, q3, q4⟩ := int_facts
  have HI := Lib.hid (And.intro q1 (And.intro q2 (And.intro q3 q4)))
  clear q1 q2 q3 q4
  clear hP
  clear h
  unfold Way
  intros
  conv => arg 2; whnf
  go_wp2_with (first
    | (refine wpList_lit (by rfl) _ _ 1 _ rfl [u] i0 Tryz.underlying22 HI.out.1 HI.out.2.1 HI.out.2.2.1 (by simp) (by simp) rfl rfl ?_; intro gl wl hgl hol hbl; have HS := Lib.hid (HS.out.below hbl); have HOL := Lib.hid hol; clear hgl hol hbl)
    | (refine wpList_append_reads _ rfl _ _ 22 rfl W.heap.size 3 i0 (.int .i64 0) 8 Tryz.underlying22 HI.out.1 HI.out.2.1 HI.out.2.2.1 HI.out.2.2.2 rfl _ (vals (st.take P)) rfl HS.out.st _ [u] rfl (Reads.of_owns HOL.out) (by rw [vals_length, Lst.out.1]; have := Lst.out.2; unfold maxLen; simp only [List.length_cons, List.length_nil]; omega) (by rw [vals_length, Lst.out.1]; have := Lst.out.2; simp only [List.length_cons, List.length_nil]; omega) HS.out.hb.size ?_; intro vs wn ho _ ht hnw; have HS := Lib.hid (HS.out.app1 (st' := st.take P ++ [u]) (by rw [vals_append]; exact ho) ht hnw); obtain ⟨so, sc, ev⟩ := HS.out.st.slice; rw [vals_length, List.length_append, Lst.out.1] at ev; change vs = .slice so (P + 1) sc at ev; subst ev; have Lst := Lib.hid (And.intro (show (st.take P ++ [u]).length = P + 1 by rw [List.length_append, Lst.out.1]; rfl) (show P + 1 ≤ 96 by have := Lst.out.2; omega)); clear ho ht hnw)
    | (refine ld_int (by rfl) _ rfl _ rfl _ (HS.out.atM HU.out) ?_)
    | (refine ld_ints (by rfl) _ rfl _ rfl _ (whole_cell HS.out.hx rfl) ?_)
    | (refine st_ints (by rfl) _ _ rfl x _ rfl _ rfl rfl _ _ HS.out.hx (Nat.le_of_ble_eq_true rfl) ?_; intro wn hx ht; have HS := Lib.hid (HS.out.set hx ht); clear hx ht)
    | (refine ld_state (by rfl) _ rfl _ rfl _ _ HS.out.hx rfl ?_)
    | (refine st_state (by rfl) _ _ rfl r _ rfl rfl _ _ HS.out.hr rfl rfl (all_one rfl rfl rfl) ?_; intro wf hrf htf; have HRF := Lib.hid hrf; have HTF := Lib.hid htf; clear hrf htf))
  refine bodyPost_ret (results_cell_row rfl _ _ r _ _ _ _ rfl HRF.out Tryz.underlying24 rfl state_size) rfl ?_
  exact SB.gives (m := ⟨i, hh, st.take P ++ [u], bk, me, ou, inn, rd, stt, cd⟩) (vs := (.slice so (P + 1) sc)) (vb := (.slice bo nb bc)) (vm := (.slice (some ⟨gm, 0, none⟩) nm mc)) HS.out HTF.out
set_option maxHeartbeats 8000000 in
set_option maxRecDepth 1000000 in
theorem way31 (h : Got W w g x r ip hh i st bk me ou inn rd stt cd vs0 vb0 vm0 so bo mo n nb nm sc bc mc p q r3) (P : Nat) (hP : P + 2 = n) (J : Nat) (hJ : p = (J : Int)) (hJm : J < nm) :
    Way w g x r 31 arg n nb p q r3 (.slice so P sc) (TellsK vs0 vb0 vm0 ⟨ip, hh, st, bk, me, ou, inn, rd, stt, cd⟩ (exec 31 ⟨ip, hh, st, bk, me, ou, inn, rd, stt, cd⟩ i arg) W) := by
  have HGT := Lib.hid h
  have HS := Lib.hid (h.sb.cut1 (P := P) (by rw [h.hn]; omega))
  have Lst := Lib.hid (And.intro (less_take_length h.hn hP) (show P ≤ 48 by have := h.l1; omega))
  have hl : less st 2 = st.take P := less_take h.hn hP
  have Lbk := Lib.hid (And.intro h.hnb h.l2)
  obtain ⟨gm, cm, em, -⟩ := owns_slice h.sb.me (by rw [h.hnm]; omega)
  simp only [Value.slice.injEq] at em
  obtain ⟨rfl, -, rfl⟩ := em
  subst hJ
  obtain ⟨u, hu⟩ : ∃ u, me.getD J 0 = u := ⟨_, rfl⟩
  have HU := Lib.hid (show me[J]? = some u by rw [← hu, List.getD_eq_getElem?_getD, List.getElem?_eq_getElem (by rw [h.hnm]; exact hJm)]; rfl)
  have HJL := Lib.hid (show J < me.length by rw [h.hnm]; exact hJm)
  have hcond : ¬ ((J : Int) < 0 ∨ ((me.length : Nat) : Int) ≤ (J : Int)) := by rw [h.hnm]; omega
  have y0 : (0 : Int) ≤ (J : Int) := Int.natCast_nonneg _
  have y1 : (J : Int) < (nm : Int) := by omega
  have l3 := h.l3
  rw [show exec 31 ⟨ip, hh, st, bk, me, ou, inn, rd, stt, cd⟩ i arg = (⟨i, hh, st.take P, bk, me.set J q, ou, inn, rd, stt, cd⟩ : M) from by simp only [exec, h.hp, h.hq, h.hr, if_neg hcond, hl, Int.toNat_natCast, hu]]
  clear hcond
  obtain ⟨i0, q1, q2, q3, q4⟩ := int_facts
  have HI := Lib.hid (And.intro q1 (And.intro q2 (And.intro q3 q4)))
  clear q1 q2 q3 q4
  clear hP
  clear h
  unfold Way
  intros
  conv => arg 2; whnf
  go_wp2_with (first
    | (refine ld_ints (by rfl) _ rfl _ rfl _ (whole_cell HS.out.hx rfl) ?_)
    | (refine st_cell (by rfl) _ _ rfl gm J rfl _ rfl _ (HS.out.atM HU.out) (HS.out.frM HJL.out) ?_; intro wn hwn; have HS := Lib.hid (show SB W g x r _ _ _ _ _ _ _ (me.set J q) wn by rw [hwn]; exact HS.out.setM (by have := HJL.out; omega) J _); clear hwn)
    | (refine st_ints (by rfl) _ _ rfl x _ rfl _ rfl rfl _ _ HS.out.hx (Nat.le_of_ble_eq_true rfl) ?_; intro wn hx ht; have HS := Lib.hid (HS.out.set hx ht); clear hx ht)
    | (refine ld_state (by rfl) _ rfl _ rfl _ _ HS.out.hx rfl ?_)
    | (refine st_state (by rfl) _ _ rfl r _ rfl rfl _ _ HS.out.hr rfl rfl (all_one rfl rfl rfl) ?_; intro wf hrf htf; have HRF := Lib.hid hrf; have HTF := Lib.hid htf; clear hrf htf))
  refine bodyPost_ret (results_cell_row rfl _ _ r _ _ _ _ rfl HRF.out Tryz.underlying24 rfl state_size) rfl ?_
  exact SB.gives (m := ⟨i, hh, st.take P, bk, me.set J q, ou, inn, rd, stt, cd⟩) (vs := (.slice so P sc)) (vb := (.slice bo nb bc)) (vm := (.slice (some ⟨gm, 0, none⟩) nm mc)) HS.out HTF.out
set_option maxHeartbeats 8000000 in
set_option maxRecDepth 1000000 in
theorem way30_low (h : Got W w g x r ip hh i st bk me ou inn rd stt cd vs0 vb0 vm0 so bo mo n nb nm sc bc mc p q r3) (P : Nat) (hP : P + 1 = n) (hc : p < 0) :
    Way w g x r 30 arg n nb p q r3 (.slice so P sc) (TellsK vs0 vb0 vm0 ⟨ip, hh, st, bk, me, ou, inn, rd, stt, cd⟩ (exec 30 ⟨ip, hh, st, bk, me, ou, inn, rd, stt, cd⟩ i arg) W) := by
  have HGT := Lib.hid h
  have HS := Lib.hid (h.sb.cut1 (P := P) (by rw [h.hn]; omega))
  have Lst := Lib.hid (And.intro (less_take_length h.hn hP) (show P ≤ 48 by have := h.l1; omega))
  have hl : less st 1 = st.take P := less_take h.hn hP
  have Lbk := Lib.hid (And.intro h.hnb h.l2)
  have l3 := h.l3
  have FT := Lib.hid (fun wc (hw : Below W.heap.size W wc) => refFault_told (m := ⟨ip, hh, st, bk, me, ou, inn, rd, stt, cd⟩) h.rs h.rb h.rm (by show bk.length ≤ 48; rw [h.hnb]; exact h.l2) (by show st.length ≤ 48; rw [h.hn]; exact h.l1) hw (-9))
  have HLOW := Lib.hid h.sb.low.2
  rw [show exec 30 ⟨ip, hh, st, bk, me, ou, inn, rd, stt, cd⟩ i arg = (Mach.fault ⟨ip, hh, st, bk, me, ou, inn, rd, stt, cd⟩ (-9) : M) from by simp only [exec, h.hp, h.hq, h.hr, if_pos (show p < 0 ∨ ((me.length : Nat) : Int) ≤ p by rw [h.hnm]; omega)]]
  obtain ⟨i0, q1, q2, q3, q4⟩ := int_facts
  have HI := Lib.hid (And.intro q1 (And.intro q2 (And.intro q3 q4)))
  clear q1 q2 q3 q4
  clear hP
  clear h
  unfold Way
  intros
  conv => arg 2; whnf
  go_wp2_with (first
    | (refine ld_ints (by rfl) _ rfl _ rfl _ (whole_cell HS.out.hx rfl) ?_)
    | (refine ld_state (by rfl) _ rfl _ rfl _ _ HS.out.hg rfl ?_)
    | (go_at_call 50; refine (FT.out _ HS.out.hb).mono ?_; rintro e wn ⟨s1, n1, c1', s2, n2, c2', s3, n3, c3', rfl, hk, hb⟩; have HKM := Lib.hid hk; have HRR := Lib.hid (boxOn HS.out.hr hb); clear hk hb)
    | (refine st_state (by rfl) _ _ rfl r _ rfl rfl _ _ HRR.out rfl rfl (all_one rfl rfl rfl) ?_; intro wf hrf htf; have HRF := Lib.hid hrf; have HTF := Lib.hid htf; clear hrf htf))
  refine bodyPost_ret (results_cell_row rfl _ _ r _ _ _ _ rfl HRF.out Tryz.underlying24 rfl state_size) rfl ?_
  exact KinM.box HKM.out HRR.out HLOW.out HTF.out
set_option maxHeartbeats 8000000 in
set_option maxRecDepth 1000000 in
theorem way30_high (h : Got W w g x r ip hh i st bk me ou inn rd stt cd vs0 vb0 vm0 so bo mo n nb nm sc bc mc p q r3) (P : Nat) (hP : P + 1 = n) (hc : ¬ p < 0 ∧ (nm : Int) ≤ p) :
    Way w g x r 30 arg n nb p q r3 (.slice so P sc) (TellsK vs0 vb0 vm0 ⟨ip, hh, st, bk, me, ou, inn, rd, stt, cd⟩ (exec 30 ⟨ip, hh, st, bk, me, ou, inn, rd, stt, cd⟩ i arg) W) := by
  have HGT := Lib.hid h
  have HS := Lib.hid (h.sb.cut1 (P := P) (by rw [h.hn]; omega))
  have Lst := Lib.hid (And.intro (less_take_length h.hn hP) (show P ≤ 48 by have := h.l1; omega))
  have hl : less st 1 = st.take P := less_take h.hn hP
  have Lbk := Lib.hid (And.intro h.hnb h.l2)
  have l3 := h.l3
  obtain ⟨hc0, hc⟩ := hc
  have FT := Lib.hid (fun wc (hw : Below W.heap.size W wc) => refFault_told (m := ⟨ip, hh, st, bk, me, ou, inn, rd, stt, cd⟩) h.rs h.rb h.rm (by show bk.length ≤ 48; rw [h.hnb]; exact h.l2) (by show st.length ≤ 48; rw [h.hn]; exact h.l1) hw (-9))
  have HLOW := Lib.hid h.sb.low.2
  rw [show exec 30 ⟨ip, hh, st, bk, me, ou, inn, rd, stt, cd⟩ i arg = (Mach.fault ⟨ip, hh, st, bk, me, ou, inn, rd, stt, cd⟩ (-9) : M) from by simp only [exec, h.hp, h.hq, h.hr, if_pos (show p < 0 ∨ ((me.length : Nat) : Int) ≤ p by rw [h.hnm]; omega)]]
  obtain ⟨i0, q1, q2, q3, q4⟩ := int_facts
  have HI := Lib.hid (And.intro q1 (And.intro q2 (And.intro q3 q4)))
  clear q1 q2 q3 q4
  clear hP
  clear h
  unfold Way
  intros
  conv => arg 2; whnf
  go_wp2_with (first
    | (refine ld_ints (by rfl) _ rfl _ rfl _ (whole_cell HS.out.hx rfl) ?_)
    | (refine ld_state (by rfl) _ rfl _ rfl _ _ HS.out.hg rfl ?_)
    | (go_at_call 50; refine (FT.out _ HS.out.hb).mono ?_; rintro e wn ⟨s1, n1, c1', s2, n2, c2', s3, n3, c3', rfl, hk, hb⟩; have HKM := Lib.hid hk; have HRR := Lib.hid (boxOn HS.out.hr hb); clear hk hb)
    | (refine st_state (by rfl) _ _ rfl r _ rfl rfl _ _ HRR.out rfl rfl (all_one rfl rfl rfl) ?_; intro wf hrf htf; have HRF := Lib.hid hrf; have HTF := Lib.hid htf; clear hrf htf))
  refine bodyPost_ret (results_cell_row rfl _ _ r _ _ _ _ rfl HRF.out Tryz.underlying24 rfl state_size) rfl ?_
  exact KinM.box HKM.out HRR.out HLOW.out HTF.out
set_option maxHeartbeats 8000000 in
set_option maxRecDepth 1000000 in
theorem way31_low (h : Got W w g x r ip hh i st bk me ou inn rd stt cd vs0 vb0 vm0 so bo mo n nb nm sc bc mc p q r3) (P : Nat) (hP : P + 2 = n) (hc : p < 0) :
    Way w g x r 31 arg n nb p q r3 (.slice so P sc) (TellsK vs0 vb0 vm0 ⟨ip, hh, st, bk, me, ou, inn, rd, stt, cd⟩ (exec 31 ⟨ip, hh, st, bk, me, ou, inn, rd, stt, cd⟩ i arg) W) := by
  have HGT := Lib.hid h
  have HS := Lib.hid (h.sb.cut1 (P := P) (by rw [h.hn]; omega))
  have Lst := Lib.hid (And.intro (less_take_length h.hn hP) (show P ≤ 48 by have := h.l1; omega))
  have hl : less st 2 = st.take P := less_take h.hn hP
  have Lbk := Lib.hid (And.intro h.hnb h.l2)
  have l3 := h.l3
  have FT := Lib.hid (fun wc (hw : Below W.heap.size W wc) => refFault_told (m := ⟨ip, hh, st, bk, me, ou, inn, rd, stt, cd⟩) h.rs h.rb h.rm (by show bk.length ≤ 48; rw [h.hnb]; exact h.l2) (by show st.length ≤ 48; rw [h.hn]; exact h.l1) hw (-9))
  have HLOW := Lib.hid h.sb.low.2
  rw [show exec 31 ⟨ip, hh, st, bk, me, ou, inn, rd, stt, cd⟩ i arg = (Mach.fault ⟨ip, hh, st, bk, me, ou, inn, rd, stt, cd⟩ (-9) : M) from by simp only [exec, h.hp, h.hq, h.hr, if_pos (show p < 0 ∨ ((me.length : Nat) : Int) ≤ p by rw [h.hnm]; omega)]]
  obtain ⟨i0, q1, q2, q3, q4⟩ := int_facts
  have HI := Lib.hid (And.intro q1 (And.intro q2 (And.intro q3 q4)))
  clear q1 q2 q3 q4
  clear hP
  clear h
  unfold Way
  intros
  conv => arg 2; whnf
  go_wp2_with (first
    | (refine ld_ints (by rfl) _ rfl _ rfl _ (whole_cell HS.out.hx rfl) ?_)
    | (refine ld_state (by rfl) _ rfl _ rfl _ _ HS.out.hg rfl ?_)
    | (go_at_call 50; refine (FT.out _ HS.out.hb).mono ?_; rintro e wn ⟨s1, n1, c1', s2, n2, c2', s3, n3, c3', rfl, hk, hb⟩; have HKM := Lib.hid hk; have HRR := Lib.hid (boxOn HS.out.hr hb); clear hk hb)
    | (refine st_state (by rfl) _ _ rfl r _ rfl rfl _ _ HRR.out rfl rfl (all_one rfl rfl rfl) ?_; intro wf hrf htf; have HRF := Lib.hid hrf; have HTF := Lib.hid htf; clear hrf htf))
  refine bodyPost_ret (results_cell_row rfl _ _ r _ _ _ _ rfl HRF.out Tryz.underlying24 rfl state_size) rfl ?_
  exact KinM.box HKM.out HRR.out HLOW.out HTF.out
set_option maxHeartbeats 8000000 in
set_option maxRecDepth 1000000 in
theorem way31_high (h : Got W w g x r ip hh i st bk me ou inn rd stt cd vs0 vb0 vm0 so bo mo n nb nm sc bc mc p q r3) (P : Nat) (hP : P + 2 = n) (hc : ¬ p < 0 ∧ (nm : Int) ≤ p) :
    Way w g x r 31 arg n nb p q r3 (.slice so P sc) (TellsK vs0 vb0 vm0 ⟨ip, hh, st, bk, me, ou, inn, rd, stt, cd⟩ (exec 31 ⟨ip, hh, st, bk, me, ou, inn, rd, stt, cd⟩ i arg) W) := by
  have HGT := Lib.hid h
  have HS := Lib.hid (h.sb.cut1 (P := P) (by rw [h.hn]; omega))
  have Lst := Lib.hid (And.intro (less_take_length h.hn hP) (show P ≤ 48 by have := h.l1; omega))
  have hl : less st 2 = st.take P := less_take h.hn hP
  have Lbk := Lib.hid (And.intro h.hnb h.l2)
  have l3 := h.l3
  obtain ⟨hc0, hc⟩ := hc
  have FT := Lib.hid (fun wc (hw : Below W.heap.size W wc) => refFault_told (m := ⟨ip, hh, st, bk, me, ou, inn, rd, stt, cd⟩) h.rs h.rb h.rm (by show bk.length ≤ 48; rw [h.hnb]; exact h.l2) (by show st.length ≤ 48; rw [h.hn]; exact h.l1) hw (-9))
  have HLOW := Lib.hid h.sb.low.2
  rw [show exec 31 ⟨ip, hh, st, bk, me, ou, inn, rd, stt, cd⟩ i arg = (Mach.fault ⟨ip, hh, st, bk, me, ou, inn, rd, stt, cd⟩ (-9) : M) from by simp only [exec, h.hp, h.hq, h.hr, if_pos (show p < 0 ∨ ((me.length : Nat) : Int) ≤ p by rw [h.hnm]; omega)]]
  obtain ⟨i0, q1, q2, q3, q4⟩ := int_facts
  have HI := Lib.hid (And.intro q1 (And.intro q2 (And.intro q3 q4)))
  clear q1 q2 q3 q4
  clear hP
  clear h
  unfold Way
  intros
  conv => arg 2; whnf
  go_wp2_with (first
    | (refine ld_ints (by rfl) _ rfl _ rfl _ (whole_cell HS.out.hx rfl) ?_)
    | (refine ld_state (by rfl) _ rfl _ rfl _ _ HS.out.hg rfl ?_)
    | (go_at_call 50; refine (FT.out _ HS.out.hb).mono ?_; rintro e wn ⟨s1, n1, c1', s2, n2, c2', s3, n3, c3', rfl, hk, hb⟩; have HKM := Lib.hid hk; have HRR := Lib.hid (boxOn HS.out.hr hb); clear hk hb)
    | (refine st_state (by rfl) _ _ rfl r _ rfl rfl _ _ HRR.out rfl rfl (all_one rfl rfl rfl) ?_; intro wf hrf htf; have HRF := Lib.hid hrf; have HTF := Lib.hid htf; clear hrf htf))
  refine bodyPost_ret (results_cell_row rfl _ _ r _ _ _ _ rfl HRF.out Tryz.underlying24 rfl state_size) rfl ?_
  exact KinM.box HKM.out HRR.out HLOW.out HTF.out
set_option maxHeartbeats 8000000 in
set_option maxRecDepth 1000000 in
theorem way32_low (h : Got W w g x r ip hh i st bk me ou inn rd stt cd vs0 vb0 vm0 so bo mo n nb nm sc bc mc p q r3) (P : Nat) (hP : P + 2 = n) (hc : p < 0) :
    Way w g x r 32 arg n nb p q r3 (.slice so P sc) (TellsK vs0 vb0 vm0 ⟨ip, hh, st, bk, me, ou, inn, rd, stt, cd⟩ (exec 32 ⟨ip, hh, st, bk, me, ou, inn, rd, stt, cd⟩ i arg) W) := by
  have HGT := Lib.hid h
  have HS := Lib.hid (h.sb.cut1 (P := P) (by rw [h.hn]; omega))
  have Lst := Lib.hid (And.intro (less_take_length h.hn hP) (show P ≤ 48 by have := h.l1; omega))
  have hl : less st 2 = st.take P := less_take h.hn hP
  have Lbk := Lib.hid (And.intro h.hnb h.l2)
  have l3 := h.l3
  have FT := Lib.hid (fun wc (hw : Below W.heap.size W wc) => refFault_told (m := ⟨ip, hh, st, bk, me, ou, inn, rd, stt, cd⟩) h.rs h.rb h.rm (by show bk.length ≤ 48; rw [h.hnb]; exact h.l2) (by show st.length ≤ 48; rw [h.hn]; exact h.l1) hw (-9))
  have HLOW := Lib.hid h.sb.low.2
  rw [show exec 32 ⟨ip, hh, st, bk, me, ou, inn, rd, stt, cd⟩ i arg = (Mach.fault ⟨ip, hh, st, bk, me, ou, inn, rd, stt, cd⟩ (-9) : M) from by simp only [exec, h.hp, h.hq, h.hr, if_pos (show p < 0 ∨ ((me.length : Nat) : Int) ≤ p by rw [h.hnm]; omega)]]
  obtain ⟨i0, q1, q2, q3, q4⟩ := int_facts
  have HI := Lib.hid (And.intro q1 (And.intro q2 (And.intro q3 q4)))
  clear q1 q2 q3 q4
  clear hP
  clear h
  unfold Way
  intros
  conv => arg 2; whnf
  go_wp2_with (first
    | (refine ld_ints (by rfl) _ rfl _ rfl _ (whole_cell HS.out.hx rfl) ?_)
    | (refine ld_state (by rfl) _ rfl _ rfl _ _ HS.out.hg rfl ?_)
    | (go_at_call 50; refine (FT.out _ HS.out.hb).mono ?_; rintro e wn ⟨s1, n1, c1', s2, n2, c2', s3, n3, c3', rfl, hk, hb⟩; have HKM := Lib.hid hk; have HRR := Lib.hid (boxOn HS.out.hr hb); clear hk hb)
    | (refine st_state (by rfl) _ _ rfl r _ rfl rfl _ _ HRR.out rfl rfl (all_one rfl rfl rfl) ?_; intro wf hrf htf; have HRF := Lib.hid hrf; have HTF := Lib.hid htf; clear hrf htf))
  refine bodyPost_ret (results_cell_row rfl _ _ r _ _ _ _ rfl HRF.out Tryz.underlying24 rfl state_size) rfl ?_
  exact KinM.box HKM.out HRR.out HLOW.out HTF.out
set_option maxHeartbeats 8000000 in
set_option maxRecDepth 1000000 in
theorem way32_high (h : Got W w g x r ip hh i st bk me ou inn rd stt cd vs0 vb0 vm0 so bo mo n nb nm sc bc mc p q r3) (P : Nat) (hP : P + 2 = n) (hc : ¬ p < 0 ∧ (nm : Int) ≤ p) :
    Way w g x r 32 arg n nb p q r3 (.slice so P sc) (TellsK vs0 vb0 vm0 ⟨ip, hh, st, bk, me, ou, inn, rd, stt, cd⟩ (exec 32 ⟨ip, hh, st, bk, me, ou, inn, rd, stt, cd⟩ i arg) W) := by
  have HGT := Lib.hid h
  have HS := Lib.hid (h.sb.cut1 (P := P) (by rw [h.hn]; omega))
  have Lst := Lib.hid (And.intro (less_take_length h.hn hP) (show P ≤ 48 by have := h.l1; omega))
  have hl : less st 2 = st.take P := less_take h.hn hP
  have Lbk := Lib.hid (And.intro h.hnb h.l2)
  have l3 := h.l3
  obtain ⟨hc0, hc⟩ := hc
  have FT := Lib.hid (fun wc (hw : Below W.heap.size W wc) => refFault_told (m := ⟨ip, hh, st, bk, me, ou, inn, rd, stt, cd⟩) h.rs h.rb h.rm (by show bk.length ≤ 48; rw [h.hnb]; exact h.l2) (by show st.length ≤ 48; rw [h.hn]; exact h.l1) hw (-9))
  have HLOW := Lib.hid h.sb.low.2
  rw [show exec 32 ⟨ip, hh, st, bk, me, ou, inn, rd, stt, cd⟩ i arg = (Mach.fault ⟨ip, hh, st, bk, me, ou, inn, rd, stt, cd⟩ (-9) : M) from by simp only [exec, h.hp, h.hq, h.hr, if_pos (show p < 0 ∨ ((me.length : Nat) : Int) ≤ p by rw [h.hnm]; omega)]]
  obtain ⟨i0, q1, q2, q3, q4⟩ := int_facts
  have HI := Lib.hid (And.intro q1 (And.intro q2 (And.intro q3 q4)))
  clear q1 q2 q3 q4
  clear hP
  clear h
  unfold Way
  intros
  conv => arg 2; whnf
  go_wp2_with (first
    | (refine ld_ints (by rfl) _ rfl _ rfl _ (whole_cell HS.out.hx rfl) ?_)
    | (refine ld_state (by rfl) _ rfl _ rfl _ _ HS.out.hg rfl ?_)
    | (go_at_call 50; refine (FT.out _ HS.out.hb).mono ?_; rintro e wn ⟨s1, n1, c1', s2, n2, c2', s3, n3, c3', rfl, hk, hb⟩; have HKM := Lib.hid hk; have HRR := Lib.hid (boxOn HS.out.hr hb); clear hk hb)
    | (refine st_state (by rfl) _ _ rfl r _ rfl rfl _ _ HRR.out rfl rfl (all_one rfl rfl rfl) ?_; intro wf hrf htf; have HRF := Lib.hid hrf; have HTF := Lib.hid htf; clear hrf htf))
  refine bodyPost_ret (results_cell_row rfl _ _ r _ _ _ _ rfl HRF.out Tryz.underlying24 rfl state_size) rfl ?_
  exact KinM.box HKM.out HRR.out HLOW.out HTF.out
end
end Go.Proofs.YtcffbeihgchpgaaGreatDoor.Inn
/- The document's own step (chapter 9): ways of the switch (6). -/
namespace Go.Proofs.YtcffbeihgchpgaaGreatDoor.Inn
open Go.RowKit Book Mem Mach
set_option linter.unusedVariables false
set_option linter.unusedSimpArgs false
section
variable {W w : World} {g x r : Nat} {ip hh i arg : Int} {st bk me : List Int} {ou inn : ByteArray} {rd stt cd : Int} {vs0 vb0 vm0 : Value} {so bo mo : Option Addr} {n nb nm sc bc mc : Nat} {p q r3 : Int}
set_option maxHeartbeats 8000000 in
set_option maxRecDepth 1000000 in
theorem way44_low (h : Got W w g x r ip hh i st bk me ou inn rd stt cd vs0 vb0 vm0 so bo mo n nb nm sc bc mc p q r3) (P : Nat) (hP : P + 1 = n) (hc : p < 64) :
    Way w g x r 44 arg n nb p q r3 (.slice so P sc) (TellsK vs0 vb0 vm0 ⟨ip, hh, st, bk, me, ou, inn, rd, stt, cd⟩ (exec 44 ⟨ip, hh, st, bk, me, ou, inn, rd, stt, cd⟩ i arg) W) := by
  have HGT := Lib.hid h
  have HS := Lib.hid (h.sb.cut1 (P := P) (by rw [h.hn]; omega))
  have Lst := Lib.hid (And.intro (less_take_length h.hn hP) (show P ≤ 48 by have := h.l1; omega))
  have hl : less st 1 = st.take P := less_take h.hn hP
  have Lbk := Lib.hid (And.intro h.hnb h.l2)
  have l3 := h.l3
  have FT := Lib.hid (fun wc (hw : Below W.heap.size W wc) => refFault_told (m := ⟨ip, hh, st, bk, me, ou, inn, rd, stt, cd⟩) h.rs h.rb h.rm (by show bk.length ≤ 48; rw [h.hnb]; exact h.l2) (by show st.length ≤ 48; rw [h.hn]; exact h.l1) hw (-13))
  have HLOW := Lib.hid h.sb.low.2
  rw [show exec 44 ⟨ip, hh, st, bk, me, ou, inn, rd, stt, cd⟩ i arg = (Mach.fault ⟨ip, hh, st, bk, me, ou, inn, rd, stt, cd⟩ (-13) : M) from by simp only [exec, h.hp, h.hq, h.hr, if_pos (show p < 64 ∨ ((me.length : Nat) : Int) ≤ p by rw [h.hnm]; omega)]]
  obtain ⟨i0, q1, q2, q3, q4⟩ := int_facts
  have HI := Lib.hid (And.intro q1 (And.intro q2 (And.intro q3 q4)))
  clear q1 q2 q3 q4
  clear hP
  clear h
  unfold Way
  intros
  conv => arg 2; whnf
  go_wp2_with (first
    | (refine ld_ints (by rfl) _ rfl _ rfl _ (whole_cell HS.out.hx rfl) ?_)
    | (refine ld_state (by rfl) _ rfl _ rfl _ _ HS.out.hg rfl ?_)
    | (go_at_call 50; refine (FT.out _ HS.out.hb).mono ?_; rintro e wn ⟨s1, n1, c1', s2, n2, c2', s3, n3, c3', rfl, hk, hb⟩; have HKM := Lib.hid hk; have HRR := Lib.hid (boxOn HS.out.hr hb); clear hk hb)
    | (refine st_state (by rfl) _ _ rfl r _ rfl rfl _ _ HRR.out rfl rfl (all_one rfl rfl rfl) ?_; intro wf hrf htf; have HRF := Lib.hid hrf; have HTF := Lib.hid htf; clear hrf htf))
  refine bodyPost_ret (results_cell_row rfl _ _ r _ _ _ _ rfl HRF.out Tryz.underlying24 rfl state_size) rfl ?_
  exact KinM.box HKM.out HRR.out HLOW.out HTF.out
set_option maxHeartbeats 8000000 in
set_option maxRecDepth 1000000 in
theorem way44_high (h : Got W w g x r ip hh i st bk me ou inn rd stt cd vs0 vb0 vm0 so bo mo n nb nm sc bc mc p q r3) (P : Nat) (hP : P + 1 = n) (hc0 : ¬ p < 64) (hc : (nm : Int) ≤ p) :
    Way w g x r 44 arg n nb p q r3 (.slice so P sc) (TellsK vs0 vb0 vm0 ⟨ip, hh, st, bk, me, ou, inn, rd, stt, cd⟩ (exec 44 ⟨ip, hh, st, bk, me, ou, inn, rd, stt, cd⟩ i arg) W) := by
  have HGT := Lib.hid h
  have HS := Lib.hid (h.sb.cut1 (P := P) (by rw [h.hn]; omega))
  have Lst := Lib.hid (And.intro (less_take_length h.hn hP) (show P ≤ 48 by have := h.l1; omega))
  have hl : less st 1 = st.take P := less_take h.hn hP
  have Lbk := Lib.hid (And.intro h.hnb h.l2)
  have l3 := h.l3
  have FT := Lib.hid (fun wc (hw : Below W.heap.size W wc) => refFault_told (m := ⟨ip, hh, st, bk, me, ou, inn, rd, stt, cd⟩) h.rs h.rb h.rm (by show bk.length ≤ 48; rw [h.hnb]; exact h.l2) (by show st.length ≤ 48; rw [h.hn]; exact h.l1) hw (-13))
  have HLOW := Lib.hid h.sb.low.2
  rw [show exec 44 ⟨ip, hh, st, bk, me, ou, inn, rd, stt, cd⟩ i arg = (Mach.fault ⟨ip, hh, st, bk, me, ou, inn, rd, stt, cd⟩ (-13) : M) from by simp only [exec, h.hp, h.hq, h.hr, if_pos (show p < 64 ∨ ((me.length : Nat) : Int) ≤ p by rw [h.hnm]; omega)]]
  obtain ⟨i0, q1, q2, q3, q4⟩ := int_facts
  have HI := Lib.hid (And.intro q1 (And.intro q2 (And.intro q3 q4)))
  clear q1 q2 q3 q4
  clear hP
  clear h
  unfold Way
  intros
  conv => arg 2; whnf
  go_wp2_with (first
    | (refine ld_ints (by rfl) _ rfl _ rfl _ (whole_cell HS.out.hx rfl) ?_)
    | (refine ld_state (by rfl) _ rfl _ rfl _ _ HS.out.hg rfl ?_)
    | (go_at_call 50; refine (FT.out _ HS.out.hb).mono ?_; rintro e wn ⟨s1, n1, c1', s2, n2, c2', s3, n3, c3', rfl, hk, hb⟩; have HKM := Lib.hid hk; have HRR := Lib.hid (boxOn HS.out.hr hb); clear hk hb)
    | (refine st_state (by rfl) _ _ rfl r _ rfl rfl _ _ HRR.out rfl rfl (all_one rfl rfl rfl) ?_; intro wf hrf htf; have HRF := Lib.hid hrf; have HTF := Lib.hid htf; clear hrf htf))
  refine bodyPost_ret (results_cell_row rfl _ _ r _ _ _ _ rfl HRF.out Tryz.underlying24 rfl state_size) rfl ?_
  exact KinM.box HKM.out HRR.out HLOW.out HTF.out
set_option maxHeartbeats 8000000 in
set_option maxRecDepth 1000000 in
theorem way44 (h : Got W w g x r ip hh i st bk me ou inn rd stt cd vs0 vb0 vm0 so bo mo n nb nm sc bc mc p q r3) (P : Nat) (hP : P + 1 = n) (hc0 : ¬ p < 64) (hc : ¬ (nm : Int) ≤ p) :
    Way w g x r 44 arg n nb p q r3 (.slice so P sc) (TellsK vs0 vb0 vm0 ⟨ip, hh, st, bk, me, ou, inn, rd, stt, cd⟩ (exec 44 ⟨ip, hh, st, bk, me, ou, inn, rd, stt, cd⟩ i arg) W) := by
  have HGT := Lib.hid h
  have HS := Lib.hid (h.sb.cut1 (P := P) (by rw [h.hn]; omega))
  have Lst := Lib.hid (And.intro (less_take_length h.hn hP) (show P ≤ 48 by have := h.l1; omega))
  have hl : less st 1 = st.take P := less_take h.hn hP
  have Lbk := Lib.hid (And.intro h.hnb h.l2)
  have l3 := h.l3
  rw [show exec 44 ⟨ip, hh, st, bk, me, ou, inn, rd, stt, cd⟩ i arg = (⟨p, hh, st.take P, bk ++ [i], me, ou, inn, rd, stt, cd⟩ : M) from by simp only [exec, h.hp, h.hq, h.hr, hl, if_neg (show ¬ (p < 64 ∨ ((me.length : Nat) : Int) ≤ p) by rw [h.hnm]; omega)]]
  obtain ⟨i0, q1, q2, q3, q4⟩ := int_facts
  have HI := Lib.hid (And.intro q1 (And.intro q2 (And.intro q3 q4)))
  clear q1 q2 q3 q4
  clear hP
  clear h
  unfold Way
  intros
  conv => arg 2; whnf
  go_wp2_with (first
    | (refine wpList_lit (by rfl) _ _ 1 _ rfl [i] i0 Tryz.underlying22 HI.out.1 HI.out.2.1 HI.out.2.2.1 (by simp) (by simp) rfl rfl ?_; intro gl wl hgl hol hbl; have HS := Lib.hid (HS.out.below hbl); have HOL := Lib.hid hol; clear hgl hol hbl)
    | (refine wpList_append_reads _ rfl _ _ 22 rfl W.heap.size 3 i0 (.int .i64 0) 8 Tryz.underlying22 HI.out.1 HI.out.2.1 HI.out.2.2.1 HI.out.2.2.2 rfl _ (vals (bk)) rfl HS.out.bk _ [i] rfl (Reads.of_owns HOL.out) (by rw [vals_length, Lbk.out.1]; have := Lbk.out.2; unfold maxLen; simp only [List.length_cons, List.length_nil]; omega) (by rw [vals_length, Lbk.out.1]; have := Lbk.out.2; simp only [List.length_cons, List.length_nil]; omega) HS.out.hb.size ?_; intro vb wn ho _ ht hnw; have HS := Lib.hid (HS.out.app2 (st' := bk ++ [i]) (by rw [vals_append]; exact ho) ht hnw); obtain ⟨bo, bc, ev⟩ := HS.out.bk.slice; rw [vals_length, List.length_append, Lbk.out.1] at ev; change vb = .slice bo (nb + 1) bc at ev; subst ev; have Lbk := Lib.hid (And.intro (show (bk ++ [i]).length = nb + 1 by rw [List.length_append, Lbk.out.1]; rfl) (show nb + 1 ≤ 96 by have := Lbk.out.2; omega)); clear ho ht hnw)
    | (refine ld_int (by rfl) _ rfl _ rfl _ (whole_cell HS.out.hx rfl) ?_)
    | (refine ld_state (by rfl) _ rfl _ rfl _ _ HS.out.hx rfl ?_)
    | (refine ld_ints (by rfl) _ rfl _ rfl _ (whole_cell HS.out.hx rfl) ?_)
    | (refine st_ints (by rfl) _ _ rfl x _ rfl _ rfl rfl _ _ HS.out.hx (Nat.le_of_ble_eq_true rfl) ?_; intro wn hx ht; have HS := Lib.hid (HS.out.set hx ht); clear hx ht)
    | (refine st_int (by rfl) _ _ rfl x _ rfl _ rfl rfl _ _ HS.out.hx (Nat.le_of_ble_eq_true rfl) ?_; intro wn hx ht; have HS := Lib.hid (HS.out.set hx ht); clear hx ht)
    | (refine st_state (by rfl) _ _ rfl r _ rfl rfl _ _ HS.out.hr rfl rfl (all_one rfl rfl rfl) ?_; intro wf hrf htf; have HRF := Lib.hid hrf; have HTF := Lib.hid htf; clear hrf htf))
  refine bodyPost_ret (results_cell_row rfl _ _ r _ _ _ _ rfl HRF.out Tryz.underlying24 rfl state_size) rfl ?_
  exact SB.gives (m := ⟨p, hh, st.take P, bk ++ [i], me, ou, inn, rd, stt, cd⟩) (vs := (.slice so P sc)) (vb := (.slice bo (nb + 1) bc)) (vm := (.slice mo nm mc)) HS.out HTF.out
end
end Go.Proofs.YtcffbeihgchpgaaGreatDoor.Inn
