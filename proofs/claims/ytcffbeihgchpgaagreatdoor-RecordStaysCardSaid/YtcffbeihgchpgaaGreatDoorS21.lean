/- The document's own step (chapter 9): ways of the switch (1). -/
import Derived.Test.YtcffbeihgchpgaaGreatDoorS20
namespace Go.Proofs.YtcffbeihgchpgaaGreatDoor.Inn
open Go.RowKit Book Mem Mach
set_option linter.unusedVariables false
set_option linter.unusedSimpArgs false
section
variable {W w : World} {g x r : Nat} {ip hh i arg : Int} {st bk me : List Int} {ou inn : ByteArray} {rd stt cd : Int} {vs0 vb0 vm0 : Value} {so bo mo : Option Addr} {n nb nm sc bc mc : Nat} {p q r3 : Int}
set_option maxHeartbeats 8000000 in
set_option maxRecDepth 1000000 in
theorem way2 (h : Got W w g x r ip hh i st bk me ou inn rd stt cd vs0 vb0 vm0 so bo mo n nb nm sc bc mc p q r3) :
    Way w g x r 2 arg n nb p q r3 (.slice so n sc) (TellsK vs0 vb0 vm0 ⟨ip, hh, st, bk, me, ou, inn, rd, stt, cd⟩ (exec 2 ⟨ip, hh, st, bk, me, ou, inn, rd, stt, cd⟩ i arg) W) := by
  have HGT := Lib.hid h
  have HS := Lib.hid h.sb
  have Lst := Lib.hid (And.intro h.hn h.l1)
  have Lbk := Lib.hid (And.intro h.hnb h.l2)
  rw [show exec 2 ⟨ip, hh, st, bk, me, ou, inn, rd, stt, cd⟩ i arg = (⟨i, hh, st ++ [arg], bk, me, ou, inn, rd, stt, cd⟩ : M) from by simp only [exec, h.hp, h.hq, h.hr]]
  obtain ⟨i0, q1, q2, q3, q4⟩ := int_facts
  have HI := Lib.hid (And.intro q1 (And.intro q2 (And.intro q3 q4)))
  clear q1 q2 q3 q4
  clear h
  unfold Way
  intros
  conv => arg 2; whnf
  go_wp2_with (first
    | (refine wpList_lit (by rfl) _ _ 1 _ rfl [arg] i0 Tryz.underlying22 HI.out.1 HI.out.2.1 HI.out.2.2.1 (by simp) (by simp) rfl rfl ?_; intro gl wl hgl hol hbl; have HS := Lib.hid (HS.out.below hbl); have HOL := Lib.hid hol; clear hgl hol hbl)
    | (refine wpList_append_reads _ rfl _ _ 22 rfl W.heap.size 3 i0 (.int .i64 0) 8 Tryz.underlying22 HI.out.1 HI.out.2.1 HI.out.2.2.1 HI.out.2.2.2 rfl _ (vals (st)) rfl HS.out.st _ [arg] rfl (Reads.of_owns HOL.out) (by rw [vals_length, Lst.out.1]; have := Lst.out.2; unfold maxLen; simp only [List.length_cons, List.length_nil]; omega) (by rw [vals_length, Lst.out.1]; have := Lst.out.2; simp only [List.length_cons, List.length_nil]; omega) HS.out.hb.size ?_; intro vs wn ho _ ht hnw; have HS := Lib.hid (HS.out.app1 (st' := st ++ [arg]) (by rw [vals_append]; exact ho) ht hnw); obtain ⟨so, sc, ev⟩ := HS.out.st.slice; rw [vals_length, List.length_append, Lst.out.1] at ev; change vs = .slice so (n + 1) sc at ev; subst ev; have Lst := Lib.hid (And.intro (show (st ++ [arg]).length = n + 1 by rw [List.length_append, Lst.out.1]; rfl) (show n + 1 ≤ 96 by have := Lst.out.2; omega)); clear ho ht hnw)
    | (refine ld_state (by rfl) _ rfl _ rfl _ _ HS.out.hx rfl ?_)
    | (refine st_ints (by rfl) _ _ rfl x _ rfl _ rfl rfl _ _ HS.out.hx (Nat.le_of_ble_eq_true rfl) ?_; intro wn hx ht; have HS := Lib.hid (HS.out.set hx ht); clear hx ht)
    | (refine st_state (by rfl) _ _ rfl r _ rfl rfl _ _ HS.out.hr rfl rfl (all_one rfl rfl rfl) ?_; intro wf hrf htf; have HRF := Lib.hid hrf; have HTF := Lib.hid htf; clear hrf htf))
  refine bodyPost_ret (results_cell_row rfl _ _ r _ _ _ _ rfl HRF.out Tryz.underlying24 rfl state_size) rfl ?_
  exact SB.gives (m := ⟨i, hh, st ++ [arg], bk, me, ou, inn, rd, stt, cd⟩) (vs := (.slice so (n + 1) sc)) (vb := (.slice bo nb bc)) (vm := (.slice mo nm mc)) HS.out HTF.out
set_option maxHeartbeats 8000000 in
set_option maxRecDepth 1000000 in
theorem way6 (h : Got W w g x r ip hh i st bk me ou inn rd stt cd vs0 vb0 vm0 so bo mo n nb nm sc bc mc p q r3) (P : Nat) (hP : P + 1 = n) :
    Way w g x r 6 arg n nb p q r3 (.slice so P sc) (TellsK vs0 vb0 vm0 ⟨ip, hh, st, bk, me, ou, inn, rd, stt, cd⟩ (exec 6 ⟨ip, hh, st, bk, me, ou, inn, rd, stt, cd⟩ i arg) W) := by
  have HGT := Lib.hid h
  have HS := Lib.hid (h.sb.cut1 (P := P) (by rw [h.hn]; omega))
  have Lst := Lib.hid (And.intro (less_take_length h.hn hP) (show P ≤ 48 by have := h.l1; omega))
  have hl : less st 1 = st.take P := less_take h.hn hP
  have Lbk := Lib.hid (And.intro h.hnb h.l2)
  rw [show exec 6 ⟨ip, hh, st, bk, me, ou, inn, rd, stt, cd⟩ i arg = (⟨i, hh, st.take P ++ [p, p], bk, me, ou, inn, rd, stt, cd⟩ : M) from by simp only [exec, h.hp, h.hq, h.hr, hl]]
  obtain ⟨i0, q1, q2, q3, q4⟩ := int_facts
  have HI := Lib.hid (And.intro q1 (And.intro q2 (And.intro q3 q4)))
  clear q1 q2 q3 q4
  clear hP
  clear h
  unfold Way
  intros
  conv => arg 2; whnf
  go_wp2_with (first
    | (refine wpList_lit (by rfl) _ _ 2 _ rfl [p, p] i0 Tryz.underlying22 HI.out.1 HI.out.2.1 HI.out.2.2.1 (by simp) (by simp) rfl rfl ?_; intro gl wl hgl hol hbl; have HS := Lib.hid (HS.out.below hbl); have HOL := Lib.hid hol; clear hgl hol hbl)
    | (refine wpList_append_reads _ rfl _ _ 22 rfl W.heap.size 3 i0 (.int .i64 0) 8 Tryz.underlying22 HI.out.1 HI.out.2.1 HI.out.2.2.1 HI.out.2.2.2 rfl _ (vals (st.take P)) rfl HS.out.st _ [p, p] rfl (Reads.of_owns HOL.out) (by rw [vals_length, Lst.out.1]; have := Lst.out.2; unfold maxLen; simp only [List.length_cons, List.length_nil]; omega) (by rw [vals_length, Lst.out.1]; have := Lst.out.2; simp only [List.length_cons, List.length_nil]; omega) HS.out.hb.size ?_; intro vs wn ho _ ht hnw; have HS := Lib.hid (HS.out.app1 (st' := st.take P ++ [p, p]) (by rw [vals_append]; exact ho) ht hnw); obtain ⟨so, sc, ev⟩ := HS.out.st.slice; rw [vals_length, List.length_append, Lst.out.1] at ev; change vs = .slice so (P + 2) sc at ev; subst ev; have Lst := Lib.hid (And.intro (show (st.take P ++ [p, p]).length = P + 2 by rw [List.length_append, Lst.out.1]; rfl) (show P + 2 ≤ 96 by have := Lst.out.2; omega)); clear ho ht hnw)
    | (refine ld_state (by rfl) _ rfl _ rfl _ _ HS.out.hx rfl ?_)
    | (refine st_ints (by rfl) _ _ rfl x _ rfl _ rfl rfl _ _ HS.out.hx (Nat.le_of_ble_eq_true rfl) ?_; intro wn hx ht; have HS := Lib.hid (HS.out.set hx ht); clear hx ht)
    | (refine st_state (by rfl) _ _ rfl r _ rfl rfl _ _ HS.out.hr rfl rfl (all_one rfl rfl rfl) ?_; intro wf hrf htf; have HRF := Lib.hid hrf; have HTF := Lib.hid htf; clear hrf htf))
  refine bodyPost_ret (results_cell_row rfl _ _ r _ _ _ _ rfl HRF.out Tryz.underlying24 rfl state_size) rfl ?_
  exact SB.gives (m := ⟨i, hh, st.take P ++ [p, p], bk, me, ou, inn, rd, stt, cd⟩) (vs := (.slice so (P + 2) sc)) (vb := (.slice bo nb bc)) (vm := (.slice mo nm mc)) HS.out HTF.out
set_option maxHeartbeats 8000000 in
set_option maxRecDepth 1000000 in
theorem way8 (h : Got W w g x r ip hh i st bk me ou inn rd stt cd vs0 vb0 vm0 so bo mo n nb nm sc bc mc p q r3) (P : Nat) (hP : P + 2 = n) :
    Way w g x r 8 arg n nb p q r3 (.slice so P sc) (TellsK vs0 vb0 vm0 ⟨ip, hh, st, bk, me, ou, inn, rd, stt, cd⟩ (exec 8 ⟨ip, hh, st, bk, me, ou, inn, rd, stt, cd⟩ i arg) W) := by
  have HGT := Lib.hid h
  have HS := Lib.hid (h.sb.cut1 (P := P) (by rw [h.hn]; omega))
  have Lst := Lib.hid (And.intro (less_take_length h.hn hP) (show P ≤ 48 by have := h.l1; omega))
  have hl : less st 2 = st.take P := less_take h.hn hP
  have Lbk := Lib.hid (And.intro h.hnb h.l2)
  rw [show exec 8 ⟨ip, hh, st, bk, me, ou, inn, rd, stt, cd⟩ i arg = (⟨i, hh, st.take P ++ [p, q], bk, me, ou, inn, rd, stt, cd⟩ : M) from by simp only [exec, h.hp, h.hq, h.hr, hl]]
  obtain ⟨i0, q1, q2, q3, q4⟩ := int_facts
  have HI := Lib.hid (And.intro q1 (And.intro q2 (And.intro q3 q4)))
  clear q1 q2 q3 q4
  clear hP
  clear h
  unfold Way
  intros
  conv => arg 2; whnf
  go_wp2_with (first
    | (refine wpList_lit (by rfl) _ _ 2 _ rfl [p, q] i0 Tryz.underlying22 HI.out.1 HI.out.2.1 HI.out.2.2.1 (by simp) (by simp) rfl rfl ?_; intro gl wl hgl hol hbl; have HS := Lib.hid (HS.out.below hbl); have HOL := Lib.hid hol; clear hgl hol hbl)
    | (refine wpList_append_reads _ rfl _ _ 22 rfl W.heap.size 3 i0 (.int .i64 0) 8 Tryz.underlying22 HI.out.1 HI.out.2.1 HI.out.2.2.1 HI.out.2.2.2 rfl _ (vals (st.take P)) rfl HS.out.st _ [p, q] rfl (Reads.of_owns HOL.out) (by rw [vals_length, Lst.out.1]; have := Lst.out.2; unfold maxLen; simp only [List.length_cons, List.length_nil]; omega) (by rw [vals_length, Lst.out.1]; have := Lst.out.2; simp only [List.length_cons, List.length_nil]; omega) HS.out.hb.size ?_; intro vs wn ho _ ht hnw; have HS := Lib.hid (HS.out.app1 (st' := st.take P ++ [p, q]) (by rw [vals_append]; exact ho) ht hnw); obtain ⟨so, sc, ev⟩ := HS.out.st.slice; rw [vals_length, List.length_append, Lst.out.1] at ev; change vs = .slice so (P + 2) sc at ev; subst ev; have Lst := Lib.hid (And.intro (show (st.take P ++ [p, q]).length = P + 2 by rw [List.length_append, Lst.out.1]; rfl) (show P + 2 ≤ 96 by have := Lst.out.2; omega)); clear ho ht hnw)
    | (refine ld_state (by rfl) _ rfl _ rfl _ _ HS.out.hx rfl ?_)
    | (refine st_ints (by rfl) _ _ rfl x _ rfl _ rfl rfl _ _ HS.out.hx (Nat.le_of_ble_eq_true rfl) ?_; intro wn hx ht; have HS := Lib.hid (HS.out.set hx ht); clear hx ht)
    | (refine st_state (by rfl) _ _ rfl r _ rfl rfl _ _ HS.out.hr rfl rfl (all_one rfl rfl rfl) ?_; intro wf hrf htf; have HRF := Lib.hid hrf; have HTF := Lib.hid htf; clear hrf htf))
  refine bodyPost_ret (results_cell_row rfl _ _ r _ _ _ _ rfl HRF.out Tryz.underlying24 rfl state_size) rfl ?_
  exact SB.gives (m := ⟨i, hh, st.take P ++ [p, q], bk, me, ou, inn, rd, stt, cd⟩) (vs := (.slice so (P + 2) sc)) (vb := (.slice bo nb bc)) (vm := (.slice mo nm mc)) HS.out HTF.out
set_option maxHeartbeats 8000000 in
set_option maxRecDepth 1000000 in
theorem way9 (h : Got W w g x r ip hh i st bk me ou inn rd stt cd vs0 vb0 vm0 so bo mo n nb nm sc bc mc p q r3) (P : Nat) (hP : P + 2 = n) :
    Way w g x r 9 arg n nb p q r3 (.slice so P sc) (TellsK vs0 vb0 vm0 ⟨ip, hh, st, bk, me, ou, inn, rd, stt, cd⟩ (exec 9 ⟨ip, hh, st, bk, me, ou, inn, rd, stt, cd⟩ i arg) W) := by
  have HGT := Lib.hid h
  have HS := Lib.hid (h.sb.cut1 (P := P) (by rw [h.hn]; omega))
  have Lst := Lib.hid (And.intro (less_take_length h.hn hP) (show P ≤ 48 by have := h.l1; omega))
  have hl : less st 2 = st.take P := less_take h.hn hP
  have Lbk := Lib.hid (And.intro h.hnb h.l2)
  rw [show exec 9 ⟨ip, hh, st, bk, me, ou, inn, rd, stt, cd⟩ i arg = (⟨i, hh, st.take P ++ [q, p, q], bk, me, ou, inn, rd, stt, cd⟩ : M) from by simp only [exec, h.hp, h.hq, h.hr, hl]]
  obtain ⟨i0, q1, q2, q3, q4⟩ := int_facts
  have HI := Lib.hid (And.intro q1 (And.intro q2 (And.intro q3 q4)))
  clear q1 q2 q3 q4
  clear hP
  clear h
  unfold Way
  intros
  conv => arg 2; whnf
  go_wp2_with (first
    | (refine wpList_lit (by rfl) _ _ 3 _ rfl [q, p, q] i0 Tryz.underlying22 HI.out.1 HI.out.2.1 HI.out.2.2.1 (by simp) (by simp) rfl rfl ?_; intro gl wl hgl hol hbl; have HS := Lib.hid (HS.out.below hbl); have HOL := Lib.hid hol; clear hgl hol hbl)
    | (refine wpList_append_reads _ rfl _ _ 22 rfl W.heap.size 3 i0 (.int .i64 0) 8 Tryz.underlying22 HI.out.1 HI.out.2.1 HI.out.2.2.1 HI.out.2.2.2 rfl _ (vals (st.take P)) rfl HS.out.st _ [q, p, q] rfl (Reads.of_owns HOL.out) (by rw [vals_length, Lst.out.1]; have := Lst.out.2; unfold maxLen; simp only [List.length_cons, List.length_nil]; omega) (by rw [vals_length, Lst.out.1]; have := Lst.out.2; simp only [List.length_cons, List.length_nil]; omega) HS.out.hb.size ?_; intro vs wn ho _ ht hnw; have HS := Lib.hid (HS.out.app1 (st' := st.take P ++ [q, p, q]) (by rw [vals_append]; exact ho) ht hnw); obtain ⟨so, sc, ev⟩ := HS.out.st.slice; rw [vals_length, List.length_append, Lst.out.1] at ev; change vs = .slice so (P + 3) sc at ev; subst ev; have Lst := Lib.hid (And.intro (show (st.take P ++ [q, p, q]).length = P + 3 by rw [List.length_append, Lst.out.1]; rfl) (show P + 3 ≤ 96 by have := Lst.out.2; omega)); clear ho ht hnw)
    | (refine ld_state (by rfl) _ rfl _ rfl _ _ HS.out.hx rfl ?_)
    | (refine st_ints (by rfl) _ _ rfl x _ rfl _ rfl rfl _ _ HS.out.hx (Nat.le_of_ble_eq_true rfl) ?_; intro wn hx ht; have HS := Lib.hid (HS.out.set hx ht); clear hx ht)
    | (refine st_state (by rfl) _ _ rfl r _ rfl rfl _ _ HS.out.hr rfl rfl (all_one rfl rfl rfl) ?_; intro wf hrf htf; have HRF := Lib.hid hrf; have HTF := Lib.hid htf; clear hrf htf))
  refine bodyPost_ret (results_cell_row rfl _ _ r _ _ _ _ rfl HRF.out Tryz.underlying24 rfl state_size) rfl ?_
  exact SB.gives (m := ⟨i, hh, st.take P ++ [q, p, q], bk, me, ou, inn, rd, stt, cd⟩) (vs := (.slice so (P + 3) sc)) (vb := (.slice bo nb bc)) (vm := (.slice mo nm mc)) HS.out HTF.out
set_option maxHeartbeats 8000000 in
set_option maxRecDepth 1000000 in
theorem way10 (h : Got W w g x r ip hh i st bk me ou inn rd stt cd vs0 vb0 vm0 so bo mo n nb nm sc bc mc p q r3) (P : Nat) (hP : P + 3 = n) :
    Way w g x r 10 arg n nb p q r3 (.slice so P sc) (TellsK vs0 vb0 vm0 ⟨ip, hh, st, bk, me, ou, inn, rd, stt, cd⟩ (exec 10 ⟨ip, hh, st, bk, me, ou, inn, rd, stt, cd⟩ i arg) W) := by
  have HGT := Lib.hid h
  have HS := Lib.hid (h.sb.cut1 (P := P) (by rw [h.hn]; omega))
  have Lst := Lib.hid (And.intro (less_take_length h.hn hP) (show P ≤ 48 by have := h.l1; omega))
  have hl : less st 3 = st.take P := less_take h.hn hP
  have Lbk := Lib.hid (And.intro h.hnb h.l2)
  rw [show exec 10 ⟨ip, hh, st, bk, me, ou, inn, rd, stt, cd⟩ i arg = (⟨i, hh, st.take P ++ [q, p, r3], bk, me, ou, inn, rd, stt, cd⟩ : M) from by simp only [exec, h.hp, h.hq, h.hr, hl]]
  obtain ⟨i0, q1, q2, q3, q4⟩ := int_facts
  have HI := Lib.hid (And.intro q1 (And.intro q2 (And.intro q3 q4)))
  clear q1 q2 q3 q4
  clear hP
  clear h
  unfold Way
  intros
  conv => arg 2; whnf
  go_wp2_with (first
    | (refine wpList_lit (by rfl) _ _ 3 _ rfl [q, p, r3] i0 Tryz.underlying22 HI.out.1 HI.out.2.1 HI.out.2.2.1 (by simp) (by simp) rfl rfl ?_; intro gl wl hgl hol hbl; have HS := Lib.hid (HS.out.below hbl); have HOL := Lib.hid hol; clear hgl hol hbl)
    | (refine wpList_append_reads _ rfl _ _ 22 rfl W.heap.size 3 i0 (.int .i64 0) 8 Tryz.underlying22 HI.out.1 HI.out.2.1 HI.out.2.2.1 HI.out.2.2.2 rfl _ (vals (st.take P)) rfl HS.out.st _ [q, p, r3] rfl (Reads.of_owns HOL.out) (by rw [vals_length, Lst.out.1]; have := Lst.out.2; unfold maxLen; simp only [List.length_cons, List.length_nil]; omega) (by rw [vals_length, Lst.out.1]; have := Lst.out.2; simp only [List.length_cons, List.length_nil]; omega) HS.out.hb.size ?_; intro vs wn ho _ ht hnw; have HS := Lib.hid (HS.out.app1 (st' := st.take P ++ [q, p, r3]) (by rw [vals_append]; exact ho) ht hnw); obtain ⟨so, sc, ev⟩ := HS.out.st.slice; rw [vals_length, List.length_append, Lst.out.1] at ev; change vs = .slice so (P + 3) sc at ev; subst ev; have Lst := Lib.hid (And.intro (show (st.take P ++ [q, p, r3]).length = P + 3 by rw [List.length_append, Lst.out.1]; rfl) (show P + 3 ≤ 96 by have := Lst.out.2; omega)); clear ho ht hnw)
    | (refine ld_state (by rfl) _ rfl _ rfl _ _ HS.out.hx rfl ?_)
    | (refine st_ints (by rfl) _ _ rfl x _ rfl _ rfl rfl _ _ HS.out.hx (Nat.le_of_ble_eq_true rfl) ?_; intro wn hx ht; have HS := Lib.hid (HS.out.set hx ht); clear hx ht)
    | (refine st_state (by rfl) _ _ rfl r _ rfl rfl _ _ HS.out.hr rfl rfl (all_one rfl rfl rfl) ?_; intro wf hrf htf; have HRF := Lib.hid hrf; have HTF := Lib.hid htf; clear hrf htf))
  refine bodyPost_ret (results_cell_row rfl _ _ r _ _ _ _ rfl HRF.out Tryz.underlying24 rfl state_size) rfl ?_
  exact SB.gives (m := ⟨i, hh, st.take P ++ [q, p, r3], bk, me, ou, inn, rd, stt, cd⟩) (vs := (.slice so (P + 3) sc)) (vb := (.slice bo nb bc)) (vm := (.slice mo nm mc)) HS.out HTF.out
set_option maxHeartbeats 8000000 in
set_option maxRecDepth 1000000 in
theorem way3 (h : Got W w g x r ip hh i st bk me ou inn rd stt cd vs0 vb0 vm0 so bo mo n nb nm sc bc mc p q r3) :
    Way w g x r 3 arg n nb p q r3 (.slice so n sc) (TellsK vs0 vb0 vm0 ⟨ip, hh, st, bk, me, ou, inn, rd, stt, cd⟩ (exec 3 ⟨ip, hh, st, bk, me, ou, inn, rd, stt, cd⟩ i arg) W) := by
  have HGT := Lib.hid h
  have HS := Lib.hid h.sb
  have Lst := Lib.hid (And.intro h.hn h.l1)
  have Lbk := Lib.hid (And.intro h.hnb h.l2)
  rw [show exec 3 ⟨ip, hh, st, bk, me, ou, inn, rd, stt, cd⟩ i arg = (⟨arg, hh, st, bk, me, ou, inn, rd, stt, cd⟩ : M) from by simp only [exec, h.hp, h.hq, h.hr]]
  obtain ⟨i0, q1, q2, q3, q4⟩ := int_facts
  have HI := Lib.hid (And.intro q1 (And.intro q2 (And.intro q3 q4)))
  clear q1 q2 q3 q4
  clear h
  unfold Way
  intros
  conv => arg 2; whnf
  go_wp2_with (first
    | (refine ld_state (by rfl) _ rfl _ rfl _ _ HS.out.hx rfl ?_)
    | (refine st_int (by rfl) _ _ rfl x _ rfl _ rfl rfl _ _ HS.out.hx (Nat.le_of_ble_eq_true rfl) ?_; intro wn hx ht; have HS := Lib.hid (HS.out.set hx ht); clear hx ht)
    | (refine st_state (by rfl) _ _ rfl r _ rfl rfl _ _ HS.out.hr rfl rfl (all_one rfl rfl rfl) ?_; intro wf hrf htf; have HRF := Lib.hid hrf; have HTF := Lib.hid htf; clear hrf htf))
  refine bodyPost_ret (results_cell_row rfl _ _ r _ _ _ _ rfl HRF.out Tryz.underlying24 rfl state_size) rfl ?_
  exact SB.gives (m := ⟨arg, hh, st, bk, me, ou, inn, rd, stt, cd⟩) (vs := (.slice so n sc)) (vb := (.slice bo nb bc)) (vm := (.slice mo nm mc)) HS.out HTF.out
set_option maxHeartbeats 8000000 in
set_option maxRecDepth 1000000 in
theorem way7 (h : Got W w g x r ip hh i st bk me ou inn rd stt cd vs0 vb0 vm0 so bo mo n nb nm sc bc mc p q r3) (P : Nat) (hP : P + 1 = n) :
    Way w g x r 7 arg n nb p q r3 (.slice so P sc) (TellsK vs0 vb0 vm0 ⟨ip, hh, st, bk, me, ou, inn, rd, stt, cd⟩ (exec 7 ⟨ip, hh, st, bk, me, ou, inn, rd, stt, cd⟩ i arg) W) := by
  have HGT := Lib.hid h
  have HS := Lib.hid (h.sb.cut1 (P := P) (by rw [h.hn]; omega))
  have Lst := Lib.hid (And.intro (less_take_length h.hn hP) (show P ≤ 48 by have := h.l1; omega))
  have hl : less st 1 = st.take P := less_take h.hn hP
  have Lbk := Lib.hid (And.intro h.hnb h.l2)
  rw [show exec 7 ⟨ip, hh, st, bk, me, ou, inn, rd, stt, cd⟩ i arg = (⟨i, hh, st.take P, bk, me, ou, inn, rd, stt, cd⟩ : M) from by simp only [exec, h.hp, h.hq, h.hr, hl]]
  obtain ⟨i0, q1, q2, q3, q4⟩ := int_facts
  have HI := Lib.hid (And.intro q1 (And.intro q2 (And.intro q3 q4)))
  clear q1 q2 q3 q4
  clear hP
  clear h
  unfold Way
  intros
  conv => arg 2; whnf
  go_wp2_with (first
    | (refine ld_state (by rfl) _ rfl _ rfl _ _ HS.out.hx rfl ?_)
    | (refine st_ints (by rfl) _ _ rfl x _ rfl _ rfl rfl _ _ HS.out.hx (Nat.le_of_ble_eq_true rfl) ?_; intro wn hx ht; have HS := Lib.hid (HS.out.set hx ht); clear hx ht)
    | (refine st_state (by rfl) _ _ rfl r _ rfl rfl _ _ HS.out.hr rfl rfl (all_one rfl rfl rfl) ?_; intro wf hrf htf; have HRF := Lib.hid hrf; have HTF := Lib.hid htf; clear hrf htf))
  refine bodyPost_ret (results_cell_row rfl _ _ r _ _ _ _ rfl HRF.out Tryz.underlying24 rfl state_size) rfl ?_
  exact SB.gives (m := ⟨i, hh, st.take P, bk, me, ou, inn, rd, stt, cd⟩) (vs := (.slice so P sc)) (vb := (.slice bo nb bc)) (vm := (.slice mo nm mc)) HS.out HTF.out
set_option maxHeartbeats 8000000 in
set_option maxRecDepth 1000000 in
theorem way47 (h : Got W w g x r ip hh i st bk me ou inn rd stt cd vs0 vb0 vm0 so bo mo n nb nm sc bc mc p q r3) :
    Way w g x r 47 arg n nb p q r3 (.slice so n sc) (TellsK vs0 vb0 vm0 ⟨ip, hh, st, bk, me, ou, inn, rd, stt, cd⟩ (exec 47 ⟨ip, hh, st, bk, me, ou, inn, rd, stt, cd⟩ i arg) W) := by
  have HGT := Lib.hid h
  have HS := Lib.hid h.sb
  have Lst := Lib.hid (And.intro h.hn h.l1)
  have Lbk := Lib.hid (And.intro h.hnb h.l2)
  rw [show exec 47 ⟨ip, hh, st, bk, me, ou, inn, rd, stt, cd⟩ i arg = (⟨i, hh, st, bk, me, ou, inn, rd, stt, cd⟩ : M) from by simp only [exec, h.hp, h.hq, h.hr]]
  obtain ⟨i0, q1, q2, q3, q4⟩ := int_facts
  have HI := Lib.hid (And.intro q1 (And.intro q2 (And.intro q3 q4)))
  clear q1 q2 q3 q4
  clear h
  unfold Way
  intros
  conv => arg 2; whnf
  go_wp2_with (first
    | (refine ld_state (by rfl) _ rfl _ rfl _ _ HS.out.hx rfl ?_)
    | (refine st_state (by rfl) _ _ rfl r _ rfl rfl _ _ HS.out.hr rfl rfl (all_one rfl rfl rfl) ?_; intro wf hrf htf; have HRF := Lib.hid hrf; have HTF := Lib.hid htf; clear hrf htf))
  refine bodyPost_ret (results_cell_row rfl _ _ r _ _ _ _ rfl HRF.out Tryz.underlying24 rfl state_size) rfl ?_
  exact SB.gives (m := ⟨i, hh, st, bk, me, ou, inn, rd, stt, cd⟩) (vs := (.slice so n sc)) (vb := (.slice bo nb bc)) (vm := (.slice mo nm mc)) HS.out HTF.out
end
end Go.Proofs.YtcffbeihgchpgaaGreatDoor.Inn
/- The document's own step (chapter 9): ways of the switch (2). -/
namespace Go.Proofs.YtcffbeihgchpgaaGreatDoor.Inn
open Go.RowKit Book Mem Mach
set_option linter.unusedVariables false
set_option linter.unusedSimpArgs false
section
variable {W w : World} {g x r : Nat} {ip hh i arg : Int} {st bk me : List Int} {ou inn : ByteArray} {rd stt cd : Int} {vs0 vb0 vm0 : Value} {so bo mo : Option Addr} {n nb nm sc bc mc : Nat} {p q r3 : Int}
set_option maxHeartbeats 8000000 in
set_option maxRecDepth 1000000 in
theorem way0 (h : Got W w g x r ip hh i st bk me ou inn rd stt cd vs0 vb0 vm0 so bo mo n nb nm sc bc mc p q r3) (hi : i = ip + 1) :
    Way w g x r 0 arg n nb p q r3 (.slice so n sc) (TellsK vs0 vb0 vm0 ⟨ip, hh, st, bk, me, ou, inn, rd, stt, cd⟩ (exec 0 ⟨ip, hh, st, bk, me, ou, inn, rd, stt, cd⟩ i arg) W) := by
  have HGT := Lib.hid h
  have HS := Lib.hid h.sb
  have Lst := Lib.hid (And.intro h.hn h.l1)
  have Lbk := Lib.hid (And.intro h.hnb h.l2)
  have e0 : i - 1 = ip := by omega
  have e1 : 0 ≤ i := by have := h.i0; omega
  have e2 : i ≤ 3000 := by have := h.i1; have := h.l3; omega
  rw [show exec 0 ⟨ip, hh, st, bk, me, ou, inn, rd, stt, cd⟩ i arg = (⟨ip, hh, st, bk, me, ou, inn, rd, 1, cd⟩ : M) from by simp only [exec, h.hp, h.hq, h.hr]]
  clear hi
  obtain ⟨i0, q1, q2, q3, q4⟩ := int_facts
  have HI := Lib.hid (And.intro q1 (And.intro q2 (And.intro q3 q4)))
  clear q1 q2 q3 q4
  clear h
  unfold Way
  intros
  conv => arg 2; whnf
  go_wp2_with (first
    | (refine ld_state (by rfl) _ rfl _ rfl _ _ HS.out.hx rfl ?_)
    | (refine ld_int (by rfl) _ rfl _ rfl _ (whole_cell HS.out.hx rfl) ?_)
    | (refine st_int (by rfl) _ _ rfl x _ rfl _ rfl rfl _ _ HS.out.hx (Nat.le_of_ble_eq_true rfl) ?_; intro wn hx ht; have HS := Lib.hid (HS.out.set hx ht); clear hx ht)
    | (refine st_state (by rfl) _ _ rfl r _ rfl rfl _ _ HS.out.hr rfl rfl (all_one rfl rfl rfl) ?_; intro wf hrf htf; have HRF := Lib.hid hrf; have HTF := Lib.hid htf; clear hrf htf))
  refine bodyPost_ret (results_cell_row rfl _ _ r _ _ _ _ rfl HRF.out Tryz.underlying24 rfl state_size) rfl ?_
  exact SB.gives (m := ⟨ip, hh, st, bk, me, ou, inn, rd, 1, cd⟩) (vs := (.slice so n sc)) (vb := (.slice bo nb bc)) (vm := (.slice mo nm mc)) HS.out HTF.out
set_option maxHeartbeats 8000000 in
set_option maxRecDepth 1000000 in
theorem way4_yes (h : Got W w g x r ip hh i st bk me ou inn rd stt cd vs0 vb0 vm0 so bo mo n nb nm sc bc mc p q r3) (P : Nat) (hP : P + 1 = n) (hz : p = 0) :
    Way w g x r 4 arg n nb p q r3 (.slice so P sc) (TellsK vs0 vb0 vm0 ⟨ip, hh, st, bk, me, ou, inn, rd, stt, cd⟩ (exec 4 ⟨ip, hh, st, bk, me, ou, inn, rd, stt, cd⟩ i arg) W) := by
  have HGT := Lib.hid h
  have HS := Lib.hid (h.sb.cut1 (P := P) (by rw [h.hn]; omega))
  have Lst := Lib.hid (And.intro (less_take_length h.hn hP) (show P ≤ 48 by have := h.l1; omega))
  have hl : less st 1 = st.take P := less_take h.hn hP
  have Lbk := Lib.hid (And.intro h.hnb h.l2)
  rw [show exec 4 ⟨ip, hh, st, bk, me, ou, inn, rd, stt, cd⟩ i arg = (⟨arg, hh, st.take P, bk, me, ou, inn, rd, stt, cd⟩ : M) from by simp only [exec, h.hp, h.hq, h.hr, if_pos hz, hl]]
  obtain ⟨i0, q1, q2, q3, q4⟩ := int_facts
  have HI := Lib.hid (And.intro q1 (And.intro q2 (And.intro q3 q4)))
  clear q1 q2 q3 q4
  clear hP
  clear h
  unfold Way
  intros
  conv => arg 2; whnf
  go_wp2_with (first
    | (refine ld_state (by rfl) _ rfl _ rfl _ _ HS.out.hx rfl ?_)
    | (refine st_ints (by rfl) _ _ rfl x _ rfl _ rfl rfl _ _ HS.out.hx (Nat.le_of_ble_eq_true rfl) ?_; intro wn hx ht; have HS := Lib.hid (HS.out.set hx ht); clear hx ht)
    | (refine st_int (by rfl) _ _ rfl x _ rfl _ rfl rfl _ _ HS.out.hx (Nat.le_of_ble_eq_true rfl) ?_; intro wn hx ht; have HS := Lib.hid (HS.out.set hx ht); clear hx ht)
    | (refine st_state (by rfl) _ _ rfl r _ rfl rfl _ _ HS.out.hr rfl rfl (all_one rfl rfl rfl) ?_; intro wf hrf htf; have HRF := Lib.hid hrf; have HTF := Lib.hid htf; clear hrf htf))
  refine bodyPost_ret (results_cell_row rfl _ _ r _ _ _ _ rfl HRF.out Tryz.underlying24 rfl state_size) rfl ?_
  exact SB.gives (m := ⟨arg, hh, st.take P, bk, me, ou, inn, rd, stt, cd⟩) (vs := (.slice so P sc)) (vb := (.slice bo nb bc)) (vm := (.slice mo nm mc)) HS.out HTF.out
set_option maxHeartbeats 8000000 in
set_option maxRecDepth 1000000 in
theorem way4_no (h : Got W w g x r ip hh i st bk me ou inn rd stt cd vs0 vb0 vm0 so bo mo n nb nm sc bc mc p q r3) (P : Nat) (hP : P + 1 = n) (hz : ¬ p = 0) :
    Way w g x r 4 arg n nb p q r3 (.slice so P sc) (TellsK vs0 vb0 vm0 ⟨ip, hh, st, bk, me, ou, inn, rd, stt, cd⟩ (exec 4 ⟨ip, hh, st, bk, me, ou, inn, rd, stt, cd⟩ i arg) W) := by
  have HGT := Lib.hid h
  have HS := Lib.hid (h.sb.cut1 (P := P) (by rw [h.hn]; omega))
  have Lst := Lib.hid (And.intro (less_take_length h.hn hP) (show P ≤ 48 by have := h.l1; omega))
  have hl : less st 1 = st.take P := less_take h.hn hP
  have Lbk := Lib.hid (And.intro h.hnb h.l2)
  rw [show exec 4 ⟨ip, hh, st, bk, me, ou, inn, rd, stt, cd⟩ i arg = (⟨i, hh, st.take P, bk, me, ou, inn, rd, stt, cd⟩ : M) from by simp only [exec, h.hp, h.hq, h.hr, if_neg hz, hl]]
  obtain ⟨i0, q1, q2, q3, q4⟩ := int_facts
  have HI := Lib.hid (And.intro q1 (And.intro q2 (And.intro q3 q4)))
  clear q1 q2 q3 q4
  clear hP
  clear h
  unfold Way
  intros
  conv => arg 2; whnf
  go_wp2_with (first
    | (refine ld_state (by rfl) _ rfl _ rfl _ _ HS.out.hx rfl ?_)
    | (refine st_ints (by rfl) _ _ rfl x _ rfl _ rfl rfl _ _ HS.out.hx (Nat.le_of_ble_eq_true rfl) ?_; intro wn hx ht; have HS := Lib.hid (HS.out.set hx ht); clear hx ht)
    | (refine st_int (by rfl) _ _ rfl x _ rfl _ rfl rfl _ _ HS.out.hx (Nat.le_of_ble_eq_true rfl) ?_; intro wn hx ht; have HS := Lib.hid (HS.out.set hx ht); clear hx ht)
    | (refine st_state (by rfl) _ _ rfl r _ rfl rfl _ _ HS.out.hr rfl rfl (all_one rfl rfl rfl) ?_; intro wf hrf htf; have HRF := Lib.hid hrf; have HTF := Lib.hid htf; clear hrf htf))
  refine bodyPost_ret (results_cell_row rfl _ _ r _ _ _ _ rfl HRF.out Tryz.underlying24 rfl state_size) rfl ?_
  exact SB.gives (m := ⟨i, hh, st.take P, bk, me, ou, inn, rd, stt, cd⟩) (vs := (.slice so P sc)) (vb := (.slice bo nb bc)) (vm := (.slice mo nm mc)) HS.out HTF.out
set_option maxHeartbeats 8000000 in
set_option maxRecDepth 1000000 in
theorem way5 (h : Got W w g x r ip hh i st bk me ou inn rd stt cd vs0 vb0 vm0 so bo mo n nb nm sc bc mc p q r3) (Q : Nat) (hQ : Q + 1 = nb) :
    Way w g x r 5 arg n nb p q r3 (.slice so n sc) (TellsK vs0 vb0 vm0 ⟨ip, hh, st, bk, me, ou, inn, rd, stt, cd⟩ (exec 5 ⟨ip, hh, st, bk, me, ou, inn, rd, stt, cd⟩ i arg) W) := by
  have HGT := Lib.hid h
  have HS := Lib.hid h.sb
  have Lst := Lib.hid (And.intro h.hn h.l1)
  have Lbk := Lib.hid (And.intro h.hnb h.l2)
  obtain ⟨gb, cb, eb, -⟩ := owns_slice h.sb.bk (by rw [h.hnb]; omega)
  simp only [Value.slice.injEq] at eb
  obtain ⟨rfl, -, rfl⟩ := eb
  have hlb : less bk 1 = bk.take Q := less_take h.hnb hQ
  have l2 := h.l2
  obtain ⟨u0, hu0⟩ : ∃ u, nth bk 0 = u := ⟨_, rfl⟩
  have HU0 := Lib.hid (show bk[Q]? = some u0 by rw [← hu0]; exact nth_get h.hnb (by omega))
  have x0 : (nb : Int) - 1 = (Q : Int) := by omega
  have y0 : (0 : Int) ≤ (Q : Int) := Int.natCast_nonneg _
  have z0 : (Q : Int) < (nb : Int) := by omega
  have yc : (0 : Int) ≤ (Q : Int) := Int.natCast_nonneg _
  rw [show exec 5 ⟨ip, hh, st, bk, me, ou, inn, rd, stt, cd⟩ i arg = (⟨u0, hh, st, bk.take Q, me, ou, inn, rd, stt, cd⟩ : M) from by simp only [exec, h.hp, h.hq, h.hr, hu0, hlb]]
  obtain ⟨i0, q1, q2, q3, q4⟩ := int_facts
  have HI := Lib.hid (And.intro q1 (And.intro q2 (And.intro q3 q4)))
  clear q1 q2 q3 q4
  have HQ := Lib.hid hQ
  clear hQ
  clear h
  unfold Way
  intros
  conv => arg 2; whnf
  go_wp2_with (first
    | (refine ld_ints (by rfl) _ rfl _ rfl _ (whole_cell HS.out.hx rfl) ?_)
    | (refine ld_int (by rfl) _ rfl _ rfl _ (HS.out.atB HU0.out) ?_)
    | (refine st_int (by rfl) _ _ rfl x _ rfl _ rfl rfl _ _ HS.out.hx (Nat.le_of_ble_eq_true rfl) ?_; intro wn hx ht; have HS := Lib.hid (HS.out.set hx ht); clear hx ht)
    | (refine wpList_slice_low (o := ⟨_, Op.slice _ _ _ _ none, _, _, _, _⟩) (by rfl) _ _ _ (by rfl) 3 Tryz.underlying22 Tryz.sizeOf3 (some ⟨gb, 0, none⟩) nb bc (bk) (by rfl) (ReadsC.of_owns HS.out.bk) Q (by rfl) (by rw [Lbk.out.1]; have := HQ.out; omega) ?_; have HS := Lib.hid (HS.out.cut2 (P := Q) (by rw [Lbk.out.1]; have := HQ.out; omega)); have Lbk := Lib.hid (And.intro (show (bk.take Q).length = Q by rw [List.length_take, Lbk.out.1]; have := HQ.out; omega) (show Q ≤ 48 by have := Lbk.out.2; have := HQ.out; omega)))
    | (refine st_ints (by rfl) _ _ rfl x _ rfl _ rfl rfl _ _ HS.out.hx (Nat.le_of_ble_eq_true rfl) ?_; intro wn hx ht; have HS := Lib.hid (HS.out.set hx ht); clear hx ht)
    | (refine ld_state (by rfl) _ rfl _ rfl _ _ HS.out.hx rfl ?_)
    | (refine st_state (by rfl) _ _ rfl r _ rfl rfl _ _ HS.out.hr rfl rfl (all_one rfl rfl rfl) ?_; intro wf hrf htf; have HRF := Lib.hid hrf; have HTF := Lib.hid htf; clear hrf htf))
  refine bodyPost_ret (results_cell_row rfl _ _ r _ _ _ _ rfl HRF.out Tryz.underlying24 rfl state_size) rfl ?_
  exact SB.gives (m := ⟨u0, hh, st, bk.take Q, me, ou, inn, rd, stt, cd⟩) (vs := (.slice so n sc)) (vb := (.slice (some ⟨gb, 0, none⟩) Q bc)) (vm := (.slice mo nm mc)) HS.out HTF.out
set_option maxHeartbeats 8000000 in
set_option maxRecDepth 1000000 in
theorem way33 (h : Got W w g x r ip hh i st bk me ou inn rd stt cd vs0 vb0 vm0 so bo mo n nb nm sc bc mc p q r3) (P : Nat) (hP : P + 1 = n) :
    Way w g x r 33 arg n nb p q r3 (.slice so P sc) (TellsK vs0 vb0 vm0 ⟨ip, hh, st, bk, me, ou, inn, rd, stt, cd⟩ (exec 33 ⟨ip, hh, st, bk, me, ou, inn, rd, stt, cd⟩ i arg) W) := by
  have HGT := Lib.hid h
  have HS := Lib.hid (h.sb.cut1 (P := P) (by rw [h.hn]; omega))
  have Lst := Lib.hid (And.intro (less_take_length h.hn hP) (show P ≤ 48 by have := h.l1; omega))
  have hl : less st 1 = st.take P := less_take h.hn hP
  have Lbk := Lib.hid (And.intro h.hnb h.l2)
  rw [show exec 33 ⟨ip, hh, st, bk, me, ou, inn, rd, stt, cd⟩ i arg = (⟨i, hh, st.take P, bk ++ [p], me, ou, inn, rd, stt, cd⟩ : M) from by simp only [exec, h.hp, h.hq, h.hr, hl]]
  obtain ⟨i0, q1, q2, q3, q4⟩ := int_facts
  have HI := Lib.hid (And.intro q1 (And.intro q2 (And.intro q3 q4)))
  clear q1 q2 q3 q4
  clear hP
  clear h
  unfold Way
  intros
  conv => arg 2; whnf
  go_wp2_with (first
    | (refine wpList_lit (by rfl) _ _ 1 _ rfl [p] i0 Tryz.underlying22 HI.out.1 HI.out.2.1 HI.out.2.2.1 (by simp) (by simp) rfl rfl ?_; intro gl wl hgl hol hbl; have HS := Lib.hid (HS.out.below hbl); have HOL := Lib.hid hol; clear hgl hol hbl)
    | (refine wpList_append_reads _ rfl _ _ 22 rfl W.heap.size 3 i0 (.int .i64 0) 8 Tryz.underlying22 HI.out.1 HI.out.2.1 HI.out.2.2.1 HI.out.2.2.2 rfl _ (vals (bk)) rfl HS.out.bk _ [p] rfl (Reads.of_owns HOL.out) (by rw [vals_length, Lbk.out.1]; have := Lbk.out.2; unfold maxLen; simp only [List.length_cons, List.length_nil]; omega) (by rw [vals_length, Lbk.out.1]; have := Lbk.out.2; simp only [List.length_cons, List.length_nil]; omega) HS.out.hb.size ?_; intro vb wn ho _ ht hnw; have HS := Lib.hid (HS.out.app2 (st' := bk ++ [p]) (by rw [vals_append]; exact ho) ht hnw); obtain ⟨bo, bc, ev⟩ := HS.out.bk.slice; rw [vals_length, List.length_append, Lbk.out.1] at ev; change vb = .slice bo (nb + 1) bc at ev; subst ev; have Lbk := Lib.hid (And.intro (show (bk ++ [p]).length = nb + 1 by rw [List.length_append, Lbk.out.1]; rfl) (show nb + 1 ≤ 96 by have := Lbk.out.2; omega)); clear ho ht hnw)
    | (refine ld_state (by rfl) _ rfl _ rfl _ _ HS.out.hx rfl ?_)
    | (refine ld_ints (by rfl) _ rfl _ rfl _ (whole_cell HS.out.hx rfl) ?_)
    | (refine st_ints (by rfl) _ _ rfl x _ rfl _ rfl rfl _ _ HS.out.hx (Nat.le_of_ble_eq_true rfl) ?_; intro wn hx ht; have HS := Lib.hid (HS.out.set hx ht); clear hx ht)
    | (refine st_state (by rfl) _ _ rfl r _ rfl rfl _ _ HS.out.hr rfl rfl (all_one rfl rfl rfl) ?_; intro wf hrf htf; have HRF := Lib.hid hrf; have HTF := Lib.hid htf; clear hrf htf))
  refine bodyPost_ret (results_cell_row rfl _ _ r _ _ _ _ rfl HRF.out Tryz.underlying24 rfl state_size) rfl ?_
  exact SB.gives (m := ⟨i, hh, st.take P, bk ++ [p], me, ou, inn, rd, stt, cd⟩) (vs := (.slice so P sc)) (vb := (.slice bo (nb + 1) bc)) (vm := (.slice mo nm mc)) HS.out HTF.out
set_option maxHeartbeats 8000000 in
set_option maxRecDepth 1000000 in
theorem way34 (h : Got W w g x r ip hh i st bk me ou inn rd stt cd vs0 vb0 vm0 so bo mo n nb nm sc bc mc p q r3) (Q : Nat) (hQ : Q + 1 = nb) :
    Way w g x r 34 arg n nb p q r3 (.slice so n sc) (TellsK vs0 vb0 vm0 ⟨ip, hh, st, bk, me, ou, inn, rd, stt, cd⟩ (exec 34 ⟨ip, hh, st, bk, me, ou, inn, rd, stt, cd⟩ i arg) W) := by
  have HGT := Lib.hid h
  have HS := Lib.hid h.sb
  have Lst := Lib.hid (And.intro h.hn h.l1)
  have Lbk := Lib.hid (And.intro h.hnb h.l2)
  obtain ⟨gb, cb, eb, -⟩ := owns_slice h.sb.bk (by rw [h.hnb]; omega)
  simp only [Value.slice.injEq] at eb
  obtain ⟨rfl, -, rfl⟩ := eb
  have hlb : less bk 1 = bk.take Q := less_take h.hnb hQ
  have l2 := h.l2
  obtain ⟨u0, hu0⟩ : ∃ u, nth bk 0 = u := ⟨_, rfl⟩
  have HU0 := Lib.hid (show bk[Q]? = some u0 by rw [← hu0]; exact nth_get h.hnb (by omega))
  have x0 : (nb : Int) - 1 = (Q : Int) := by omega
  have y0 : (0 : Int) ≤ (Q : Int) := Int.natCast_nonneg _
  have z0 : (Q : Int) < (nb : Int) := by omega
  have yc : (0 : Int) ≤ (Q : Int) := Int.natCast_nonneg _
  rw [show exec 34 ⟨ip, hh, st, bk, me, ou, inn, rd, stt, cd⟩ i arg = (⟨i, hh, st ++ [u0], bk.take Q, me, ou, inn, rd, stt, cd⟩ : M) from by simp only [exec, h.hp, h.hq, h.hr, hu0, hlb]]
  obtain ⟨i0, q1, q2, q3, q4⟩ := int_facts
  have HI := Lib.hid (And.intro q1 (And.intro q2 (And.intro q3 q4)))
  clear q1 q2 q3 q4
  have HQ := Lib.hid hQ
  clear hQ
  clear h
  unfold Way
  intros
  conv => arg 2; whnf
  go_wp2_with (first
    | (refine wpList_lit (by rfl) _ _ 1 _ rfl [u0] i0 Tryz.underlying22 HI.out.1 HI.out.2.1 HI.out.2.2.1 (by simp) (by simp) rfl rfl ?_; intro gl wl hgl hol hbl; have HS := Lib.hid (HS.out.below hbl); have HOL := Lib.hid hol; clear hgl hol hbl)
    | (refine wpList_append_reads _ rfl _ _ 22 rfl W.heap.size 3 i0 (.int .i64 0) 8 Tryz.underlying22 HI.out.1 HI.out.2.1 HI.out.2.2.1 HI.out.2.2.2 rfl _ (vals (st)) rfl HS.out.st _ [u0] rfl (Reads.of_owns HOL.out) (by rw [vals_length, Lst.out.1]; have := Lst.out.2; unfold maxLen; simp only [List.length_cons, List.length_nil]; omega) (by rw [vals_length, Lst.out.1]; have := Lst.out.2; simp only [List.length_cons, List.length_nil]; omega) HS.out.hb.size ?_; intro vs wn ho _ ht hnw; have HS := Lib.hid (HS.out.app1 (st' := st ++ [u0]) (by rw [vals_append]; exact ho) ht hnw); obtain ⟨so, sc, ev⟩ := HS.out.st.slice; rw [vals_length, List.length_append, Lst.out.1] at ev; change vs = .slice so (n + 1) sc at ev; subst ev; have Lst := Lib.hid (And.intro (show (st ++ [u0]).length = n + 1 by rw [List.length_append, Lst.out.1]; rfl) (show n + 1 ≤ 96 by have := Lst.out.2; omega)); clear ho ht hnw)
    | (refine ld_int (by rfl) _ rfl _ rfl _ (HS.out.atB HU0.out) ?_)
    | (refine ld_state (by rfl) _ rfl _ rfl _ _ HS.out.hx rfl ?_)
    | (refine ld_ints (by rfl) _ rfl _ rfl _ (whole_cell HS.out.hx rfl) ?_)
    | (refine wpList_slice_low (o := ⟨_, Op.slice _ _ _ _ none, _, _, _, _⟩) (by rfl) _ _ _ (by rfl) 3 Tryz.underlying22 Tryz.sizeOf3 (some ⟨gb, 0, none⟩) nb bc (bk) (by rfl) (ReadsC.of_owns HS.out.bk) Q (by rfl) (by rw [Lbk.out.1]; have := HQ.out; omega) ?_; have HS := Lib.hid (HS.out.cut2 (P := Q) (by rw [Lbk.out.1]; have := HQ.out; omega)); have Lbk := Lib.hid (And.intro (show (bk.take Q).length = Q by rw [List.length_take, Lbk.out.1]; have := HQ.out; omega) (show Q ≤ 48 by have := Lbk.out.2; have := HQ.out; omega)))
    | (refine st_ints (by rfl) _ _ rfl x _ rfl _ rfl rfl _ _ HS.out.hx (Nat.le_of_ble_eq_true rfl) ?_; intro wn hx ht; have HS := Lib.hid (HS.out.set hx ht); clear hx ht)
    | (refine st_state (by rfl) _ _ rfl r _ rfl rfl _ _ HS.out.hr rfl rfl (all_one rfl rfl rfl) ?_; intro wf hrf htf; have HRF := Lib.hid hrf; have HTF := Lib.hid htf; clear hrf htf))
  refine bodyPost_ret (results_cell_row rfl _ _ r _ _ _ _ rfl HRF.out Tryz.underlying24 rfl state_size) rfl ?_
  exact SB.gives (m := ⟨i, hh, st ++ [u0], bk.take Q, me, ou, inn, rd, stt, cd⟩) (vs := (.slice so (n + 1) sc)) (vb := (.slice (some ⟨gb, 0, none⟩) Q bc)) (vm := (.slice mo nm mc)) HS.out HTF.out
end
end Go.Proofs.YtcffbeihgchpgaaGreatDoor.Inn
