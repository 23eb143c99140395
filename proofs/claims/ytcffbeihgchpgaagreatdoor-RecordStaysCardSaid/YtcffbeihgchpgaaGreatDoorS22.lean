/- The document's own step (chapter 9): ways of the switch (3). -/
import Derived.Test.YtcffbeihgchpgaaGreatDoorS20
namespace Go.Proofs.YtcffbeihgchpgaaGreatDoor.Inn
open Go.RowKit Book Mem Mach
set_option linter.unusedVariables false
set_option linter.unusedSimpArgs false
section
variable {W w : World} {g x r : Nat} {ip hh i arg : Int} {st bk me : List Int} {ou inn : ByteArray} {rd stt cd : Int} {vs0 vb0 vm0 : Value} {so bo mo : Option Addr} {n nb nm sc bc mc : Nat} {p q r3 : Int}
set_option maxHeartbeats 8000000 in
set_option maxRecDepth 1000000 in
theorem way35 (h : Got W w g x r ip hh i st bk me ou inn rd stt cd vs0 vb0 vm0 so bo mo n nb nm sc bc mc p q r3) (Q : Nat) (hQ : Q + 1 = nb) :
    Way w g x r 35 arg n nb p q r3 (.slice so n sc) (TellsK vs0 vb0 vm0 ⟨ip, hh, st, bk, me, ou, inn, rd, stt, cd⟩ (exec 35 ⟨ip, hh, st, bk, me, ou, inn, rd, stt, cd⟩ i arg) W) := by
  have HGT := Lib.hid h
  have HS := Lib.hid h.sb
  have Lst := Lib.hid (And.intro h.hn h.l1)
  have Lbk := Lib.hid (And.intro h.hnb h.l2)
  obtain ⟨gb, cb, eb, -⟩ := owns_slice h.sb.bk (by rw [h.hnb]; omega)
  simp only [Value.slice.injEq] at eb
  obtain ⟨rfl, -, rfl⟩ := eb
  have hlb : less bk 1 = bk.take Q := less_take h.hnb hQ
  have l2 := h.l2
  obtain ⟨u0, hu0⟩ : ∃ u, nth bk 0 = u := ⟨_, rfl⟩
  have HU0 := Lib.hid (show bk[Q]? = some u0 by rw [← hu0]; exact nth_get h.hnb (by omega))
  have x0 : (nb : Int) - 1 = (Q : Int) := by omega
  have y0 : (0 : Int) ≤ (Q : Int) := Int.natCast_nonneg _
  have z0 : (Q : Int) < (nb : Int) := by omega
  have yc : (0 : Int) ≤ (Q : Int) := Int.natCast_nonneg _
  rw [show exec 35 ⟨ip, hh, st, bk, me, ou, inn, rd, stt, cd⟩ i arg = (⟨i, hh, st ++ [u0], bk, me, ou, inn, rd, stt, cd⟩ : M) from by simp only [exec, h.hp, h.hq, h.hr, hu0]]
  obtain ⟨i0, q1, q2, q3, q4⟩ := int_facts
  have HI := Lib.hid (And.intro q1 (And.intro q2 (And.intro q3 q4)))
  clear q1 q2 q3 q4
  have HQ := Lib.hid hQ
  clear hQ
  clear h
  unfold Way
  intros
  conv => arg 2; whnf
  go_wp2_with (first
    | (refine wpList_lit (by rfl) _ _ 1 _ rfl [u0] i0 Tryz.underlying22 HI.out.1 HI.out.2.1 HI.out.2.2.1 (by simp) (by simp) rfl rfl ?_; intro gl wl hgl hol hbl; have HS := Lib.hid (HS.out.below hbl); have HOL := Lib.hid hol; clear hgl hol hbl)
    | (refine wpList_append_reads _ rfl _ _ 22 rfl W.heap.size 3 i0 (.int .i64 0) 8 Tryz.underlying22 HI.out.1 HI.out.2.1 HI.out.2.2.1 HI.out.2.2.2 rfl _ (vals (st)) rfl HS.out.st _ [u0] rfl (Reads.of_owns HOL.out) (by rw [vals_length, Lst.out.1]; have := Lst.out.2; unfold maxLen; simp only [List.length_cons, List.length_nil]; omega) (by rw [vals_length, Lst.out.1]; have := Lst.out.2; simp only [List.length_cons, List.length_nil]; omega) HS.out.hb.size ?_; intro vs wn ho _ ht hnw; have HS := Lib.hid (HS.out.app1 (st' := st ++ [u0]) (by rw [vals_append]; exact ho) ht hnw); obtain ⟨so, sc, ev⟩ := HS.out.st.slice; rw [vals_length, List.length_append, Lst.out.1] at ev; change vs = .slice so (n + 1) sc at ev; subst ev; have Lst := Lib.hid (And.intro (show (st ++ [u0]).length = n + 1 by rw [List.length_append, Lst.out.1]; rfl) (show n + 1 ≤ 96 by have := Lst.out.2; omega)); clear ho ht hnw)
    | (refine ld_int (by rfl) _ rfl _ rfl _ (HS.out.atB HU0.out) ?_)
    | (refine ld_state (by rfl) _ rfl _ rfl _ _ HS.out.hx rfl ?_)
    | (refine ld_ints (by rfl) _ rfl _ rfl _ (whole_cell HS.out.hx rfl) ?_)
    | (refine st_ints (by rfl) _ _ rfl x _ rfl _ rfl rfl _ _ HS.out.hx (Nat.le_of_ble_eq_true rfl) ?_; intro wn hx ht; have HS := Lib.hid (HS.out.set hx ht); clear hx ht)
    | (refine st_state (by rfl) _ _ rfl r _ rfl rfl _ _ HS.out.hr rfl rfl (all_one rfl rfl rfl) ?_; intro wf hrf htf; have HRF := Lib.hid hrf; have HTF := Lib.hid htf; clear hrf htf))
  refine bodyPost_ret (results_cell_row rfl _ _ r _ _ _ _ rfl HRF.out Tryz.underlying24 rfl state_size) rfl ?_
  exact SB.gives (m := ⟨i, hh, st ++ [u0], bk, me, ou, inn, rd, stt, cd⟩) (vs := (.slice so (n + 1) sc)) (vb := (.slice (some ⟨gb, 0, none⟩) nb bc)) (vm := (.slice mo nm mc)) HS.out HTF.out
set_option maxHeartbeats 8000000 in
set_option maxRecDepth 1000000 in
theorem way36 (h : Got W w g x r ip hh i st bk me ou inn rd stt cd vs0 vb0 vm0 so bo mo n nb nm sc bc mc p q r3) (P : Nat) (hP : P + 2 = n) :
    Way w g x r 36 arg n nb p q r3 (.slice so P sc) (TellsK vs0 vb0 vm0 ⟨ip, hh, st, bk, me, ou, inn, rd, stt, cd⟩ (exec 36 ⟨ip, hh, st, bk, me, ou, inn, rd, stt, cd⟩ i arg) W) := by
  have HGT := Lib.hid h
  have HS := Lib.hid (h.sb.cut1 (P := P) (by rw [h.hn]; omega))
  have Lst := Lib.hid (And.intro (less_take_length h.hn hP) (show P ≤ 48 by have := h.l1; omega))
  have hl : less st 2 = st.take P := less_take h.hn hP
  have Lbk := Lib.hid (And.intro h.hnb h.l2)
  rw [show exec 36 ⟨ip, hh, st, bk, me, ou, inn, rd, stt, cd⟩ i arg = (⟨i, hh, st.take P, bk ++ [q, p], me, ou, inn, rd, stt, cd⟩ : M) from by simp only [exec, h.hp, h.hq, h.hr, hl]]
  obtain ⟨i0, q1, q2, q3, q4⟩ := int_facts
  have HI := Lib.hid (And.intro q1 (And.intro q2 (And.intro q3 q4)))
  clear q1 q2 q3 q4
  clear hP
  clear h
  unfold Way
  intros
  conv => arg 2; whnf
  go_wp2_with (first
    | (refine wpList_lit (by rfl) _ _ 2 _ rfl [q, p] i0 Tryz.underlying22 HI.out.1 HI.out.2.1 HI.out.2.2.1 (by simp) (by simp) rfl rfl ?_; intro gl wl hgl hol hbl; have HS := Lib.hid (HS.out.below hbl); have HOL := Lib.hid hol; clear hgl hol hbl)
    | (refine wpList_append_reads _ rfl _ _ 22 rfl W.heap.size 3 i0 (.int .i64 0) 8 Tryz.underlying22 HI.out.1 HI.out.2.1 HI.out.2.2.1 HI.out.2.2.2 rfl _ (vals (bk)) rfl HS.out.bk _ [q, p] rfl (Reads.of_owns HOL.out) (by rw [vals_length, Lbk.out.1]; have := Lbk.out.2; unfold maxLen; simp only [List.length_cons, List.length_nil]; omega) (by rw [vals_length, Lbk.out.1]; have := Lbk.out.2; simp only [List.length_cons, List.length_nil]; omega) HS.out.hb.size ?_; intro vb wn ho _ ht hnw; have HS := Lib.hid (HS.out.app2 (st' := bk ++ [q, p]) (by rw [vals_append]; exact ho) ht hnw); obtain ⟨bo, bc, ev⟩ := HS.out.bk.slice; rw [vals_length, List.length_append, Lbk.out.1] at ev; change vb = .slice bo (nb + 2) bc at ev; subst ev; have Lbk := Lib.hid (And.intro (show (bk ++ [q, p]).length = nb + 2 by rw [List.length_append, Lbk.out.1]; rfl) (show nb + 2 ≤ 96 by have := Lbk.out.2; omega)); clear ho ht hnw)
    | (refine ld_state (by rfl) _ rfl _ rfl _ _ HS.out.hx rfl ?_)
    | (refine ld_ints (by rfl) _ rfl _ rfl _ (whole_cell HS.out.hx rfl) ?_)
    | (refine st_ints (by rfl) _ _ rfl x _ rfl _ rfl rfl _ _ HS.out.hx (Nat.le_of_ble_eq_true rfl) ?_; intro wn hx ht; have HS := Lib.hid (HS.out.set hx ht); clear hx ht)
    | (refine st_state (by rfl) _ _ rfl r _ rfl rfl _ _ HS.out.hr rfl rfl (all_one rfl rfl rfl) ?_; intro wf hrf htf; have HRF := Lib.hid hrf; have HTF := Lib.hid htf; clear hrf htf))
  refine bodyPost_ret (results_cell_row rfl _ _ r _ _ _ _ rfl HRF.out Tryz.underlying24 rfl state_size) rfl ?_
  exact SB.gives (m := ⟨i, hh, st.take P, bk ++ [q, p], me, ou, inn, rd, stt, cd⟩) (vs := (.slice so P sc)) (vb := (.slice bo (nb + 2) bc)) (vm := (.slice mo nm mc)) HS.out HTF.out
set_option maxHeartbeats 8000000 in
set_option maxRecDepth 1000000 in
theorem way39 (h : Got W w g x r ip hh i st bk me ou inn rd stt cd vs0 vb0 vm0 so bo mo n nb nm sc bc mc p q r3) (Q : Nat) (hQ : Q + 3 = nb) :
    Way w g x r 39 arg n nb p q r3 (.slice so n sc) (TellsK vs0 vb0 vm0 ⟨ip, hh, st, bk, me, ou, inn, rd, stt, cd⟩ (exec 39 ⟨ip, hh, st, bk, me, ou, inn, rd, stt, cd⟩ i arg) W) := by
  have HGT := Lib.hid h
  have HS := Lib.hid h.sb
  have Lst := Lib.hid (And.intro h.hn h.l1)
  have Lbk := Lib.hid (And.intro h.hnb h.l2)
  obtain ⟨gb, cb, eb, -⟩ := owns_slice h.sb.bk (by rw [h.hnb]; omega)
  simp only [Value.slice.injEq] at eb
  obtain ⟨rfl, -, rfl⟩ := eb
  have hlb : less bk 3 = bk.take Q := less_take h.hnb hQ
  have l2 := h.l2
  obtain ⟨u2, hu2⟩ : ∃ u, nth bk 2 = u := ⟨_, rfl⟩
  have HU2 := Lib.hid (show bk[Q]? = some u2 by rw [← hu2]; exact nth_get h.hnb (by omega))
  have x2 : (nb : Int) - 3 = (Q : Int) := by omega
  have y2 : (0 : Int) ≤ (Q : Int) := Int.natCast_nonneg _
  have z2 : (Q : Int) < (nb : Int) := by omega
  have yc : (0 : Int) ≤ (Q : Int) := Int.natCast_nonneg _
  rw [show exec 39 ⟨ip, hh, st, bk, me, ou, inn, rd, stt, cd⟩ i arg = (⟨i, hh, st ++ [u2], bk, me, ou, inn, rd, stt, cd⟩ : M) from by simp only [exec, h.hp, h.hq, h.hr, hu2]]
  obtain ⟨i0, q1, q2, q3, q4⟩ := int_facts
  have HI := Lib.hid (And.intro q1 (And.intro q2 (And.intro q3 q4)))
  clear q1 q2 q3 q4
  have HQ := Lib.hid hQ
  clear hQ
  clear h
  unfold Way
  intros
  conv => arg 2; whnf
  go_wp2_with (first
    | (refine wpList_lit (by rfl) _ _ 1 _ rfl [u2] i0 Tryz.underlying22 HI.out.1 HI.out.2.1 HI.out.2.2.1 (by simp) (by simp) rfl rfl ?_; intro gl wl hgl hol hbl; have HS := Lib.hid (HS.out.below hbl); have HOL := Lib.hid hol; clear hgl hol hbl)
    | (refine wpList_append_reads _ rfl _ _ 22 rfl W.heap.size 3 i0 (.int .i64 0) 8 Tryz.underlying22 HI.out.1 HI.out.2.1 HI.out.2.2.1 HI.out.2.2.2 rfl _ (vals (st)) rfl HS.out.st _ [u2] rfl (Reads.of_owns HOL.out) (by rw [vals_length, Lst.out.1]; have := Lst.out.2; unfold maxLen; simp only [List.length_cons, List.length_nil]; omega) (by rw [vals_length, Lst.out.1]; have := Lst.out.2; simp only [List.length_cons, List.length_nil]; omega) HS.out.hb.size ?_; intro vs wn ho _ ht hnw; have HS := Lib.hid (HS.out.app1 (st' := st ++ [u2]) (by rw [vals_append]; exact ho) ht hnw); obtain ⟨so, sc, ev⟩ := HS.out.st.slice; rw [vals_length, List.length_append, Lst.out.1] at ev; change vs = .slice so (n + 1) sc at ev; subst ev; have Lst := Lib.hid (And.intro (show (st ++ [u2]).length = n + 1 by rw [List.length_append, Lst.out.1]; rfl) (show n + 1 ≤ 96 by have := Lst.out.2; omega)); clear ho ht hnw)
    | (refine ld_int (by rfl) _ rfl _ rfl _ (HS.out.atB HU2.out) ?_)
    | (refine ld_state (by rfl) _ rfl _ rfl _ _ HS.out.hx rfl ?_)
    | (refine ld_ints (by rfl) _ rfl _ rfl _ (whole_cell HS.out.hx rfl) ?_)
    | (refine st_ints (by rfl) _ _ rfl x _ rfl _ rfl rfl _ _ HS.out.hx (Nat.le_of_ble_eq_true rfl) ?_; intro wn hx ht; have HS := Lib.hid (HS.out.set hx ht); clear hx ht)
    | (refine st_state (by rfl) _ _ rfl r _ rfl rfl _ _ HS.out.hr rfl rfl (all_one rfl rfl rfl) ?_; intro wf hrf htf; have HRF := Lib.hid hrf; have HTF := Lib.hid htf; clear hrf htf))
  refine bodyPost_ret (results_cell_row rfl _ _ r _ _ _ _ rfl HRF.out Tryz.underlying24 rfl state_size) rfl ?_
  exact SB.gives (m := ⟨i, hh, st ++ [u2], bk, me, ou, inn, rd, stt, cd⟩) (vs := (.slice so (n + 1) sc)) (vb := (.slice (some ⟨gb, 0, none⟩) nb bc)) (vm := (.slice mo nm mc)) HS.out HTF.out
set_option maxHeartbeats 8000000 in
set_option maxRecDepth 1000000 in
theorem way40 (h : Got W w g x r ip hh i st bk me ou inn rd stt cd vs0 vb0 vm0 so bo mo n nb nm sc bc mc p q r3) (Q : Nat) (hQ : Q + 2 = nb) :
    Way w g x r 40 arg n nb p q r3 (.slice so n sc) (TellsK vs0 vb0 vm0 ⟨ip, hh, st, bk, me, ou, inn, rd, stt, cd⟩ (exec 40 ⟨ip, hh, st, bk, me, ou, inn, rd, stt, cd⟩ i arg) W) := by
  have HGT := Lib.hid h
  have HS := Lib.hid h.sb
  have Lst := Lib.hid (And.intro h.hn h.l1)
  have Lbk := Lib.hid (And.intro h.hnb h.l2)
  obtain ⟨gb, cb, eb, -⟩ := owns_slice h.sb.bk (by rw [h.hnb]; omega)
  simp only [Value.slice.injEq] at eb
  obtain ⟨rfl, -, rfl⟩ := eb
  have hlb : less bk 2 = bk.take Q := less_take h.hnb hQ
  have l2 := h.l2
  have xc : (nb : Int) - 2 = (Q : Int) := by omega
  have yc : (0 : Int) ≤ (Q : Int) := Int.natCast_nonneg _
  rw [show exec 40 ⟨ip, hh, st, bk, me, ou, inn, rd, stt, cd⟩ i arg = (⟨i, hh, st, bk.take Q, me, ou, inn, rd, stt, cd⟩ : M) from by simp only [exec, h.hp, h.hq, h.hr, hlb]]
  obtain ⟨i0, q1, q2, q3, q4⟩ := int_facts
  have HI := Lib.hid (And.intro q1 (And.intro q2 (And.intro q3 q4)))
  clear q1 q2 q3 q4
  have HQ := Lib.hid hQ
  clear hQ
  clear h
  unfold Way
  intros
  conv => arg 2; whnf
  go_wp2_with (first
    | (refine ld_state (by rfl) _ rfl _ rfl _ _ HS.out.hx rfl ?_)
    | (refine ld_ints (by rfl) _ rfl _ rfl _ (whole_cell HS.out.hx rfl) ?_)
    | (refine wpList_slice_low (o := ⟨_, Op.slice _ _ _ _ none, _, _, _, _⟩) (by rfl) _ _ _ (by rfl) 3 Tryz.underlying22 Tryz.sizeOf3 (some ⟨gb, 0, none⟩) nb bc (bk) (by rfl) (ReadsC.of_owns HS.out.bk) Q (by rfl) (by rw [Lbk.out.1]; have := HQ.out; omega) ?_; have HS := Lib.hid (HS.out.cut2 (P := Q) (by rw [Lbk.out.1]; have := HQ.out; omega)); have Lbk := Lib.hid (And.intro (show (bk.take Q).length = Q by rw [List.length_take, Lbk.out.1]; have := HQ.out; omega) (show Q ≤ 48 by have := Lbk.out.2; have := HQ.out; omega)))
    | (refine st_ints (by rfl) _ _ rfl x _ rfl _ rfl rfl _ _ HS.out.hx (Nat.le_of_ble_eq_true rfl) ?_; intro wn hx ht; have HS := Lib.hid (HS.out.set hx ht); clear hx ht)
    | (refine st_state (by rfl) _ _ rfl r _ rfl rfl _ _ HS.out.hr rfl rfl (all_one rfl rfl rfl) ?_; intro wf hrf htf; have HRF := Lib.hid hrf; have HTF := Lib.hid htf; clear hrf htf))
  refine bodyPost_ret (results_cell_row rfl _ _ r _ _ _ _ rfl HRF.out Tryz.underlying24 rfl state_size) rfl ?_
  exact SB.gives (m := ⟨i, hh, st, bk.take Q, me, ou, inn, rd, stt, cd⟩) (vs := (.slice so n sc)) (vb := (.slice (some ⟨gb, 0, none⟩) Q bc)) (vm := (.slice mo nm mc)) HS.out HTF.out
set_option maxHeartbeats 8000000 in
set_option maxRecDepth 1000000 in
theorem way45_no (h : Got W w g x r ip hh i st bk me ou inn rd stt cd vs0 vb0 vm0 so bo mo n nb nm sc bc mc p q r3) (P : Nat) (hP : P + 1 = n) (hz : p = 0) :
    Way w g x r 45 arg n nb p q r3 (.slice so P sc) (TellsK vs0 vb0 vm0 ⟨ip, hh, st, bk, me, ou, inn, rd, stt, cd⟩ (exec 45 ⟨ip, hh, st, bk, me, ou, inn, rd, stt, cd⟩ i arg) W) := by
  have HGT := Lib.hid h
  have HS := Lib.hid (h.sb.cut1 (P := P) (by rw [h.hn]; omega))
  have Lst := Lib.hid (And.intro (less_take_length h.hn hP) (show P ≤ 48 by have := h.l1; omega))
  have hl : less st 1 = st.take P := less_take h.hn hP
  have Lbk := Lib.hid (And.intro h.hnb h.l2)
  rw [show exec 45 ⟨ip, hh, st, bk, me, ou, inn, rd, stt, cd⟩ i arg = (⟨i, hh, st.take P, bk, me, ou, inn, rd, stt, cd⟩ : M) from by simp only [exec, h.hp, h.hq, h.hr, if_pos hz, hl]]
  obtain ⟨i0, q1, q2, q3, q4⟩ := int_facts
  have HI := Lib.hid (And.intro q1 (And.intro q2 (And.intro q3 q4)))
  clear q1 q2 q3 q4
  clear hP
  clear h
  unfold Way
  intros
  conv => arg 2; whnf
  go_wp2_with (first
    | (refine ld_state (by rfl) _ rfl _ rfl _ _ HS.out.hx rfl ?_)
    | (refine st_ints (by rfl) _ _ rfl x _ rfl _ rfl rfl _ _ HS.out.hx (Nat.le_of_ble_eq_true rfl) ?_; intro wn hx ht; have HS := Lib.hid (HS.out.set hx ht); clear hx ht)
    | (refine st_state (by rfl) _ _ rfl r _ rfl rfl _ _ HS.out.hr rfl rfl (all_one rfl rfl rfl) ?_; intro wf hrf htf; have HRF := Lib.hid hrf; have HTF := Lib.hid htf; clear hrf htf))
  refine bodyPost_ret (results_cell_row rfl _ _ r _ _ _ _ rfl HRF.out Tryz.underlying24 rfl state_size) rfl ?_
  exact SB.gives (m := ⟨i, hh, st.take P, bk, me, ou, inn, rd, stt, cd⟩) (vs := (.slice so P sc)) (vb := (.slice bo nb bc)) (vm := (.slice mo nm mc)) HS.out HTF.out
set_option maxHeartbeats 8000000 in
set_option maxRecDepth 1000000 in
theorem way45_yes (h : Got W w g x r ip hh i st bk me ou inn rd stt cd vs0 vb0 vm0 so bo mo n nb nm sc bc mc p q r3) (P : Nat) (hP : P + 1 = n) (hz : ¬ p = 0) :
    Way w g x r 45 arg n nb p q r3 (.slice so P sc) (TellsK vs0 vb0 vm0 ⟨ip, hh, st, bk, me, ou, inn, rd, stt, cd⟩ (exec 45 ⟨ip, hh, st, bk, me, ou, inn, rd, stt, cd⟩ i arg) W) := by
  have HGT := Lib.hid h
  have HS := Lib.hid (h.sb.cut1 (P := P) (by rw [h.hn]; omega))
  have Lst := Lib.hid (And.intro (less_take_length h.hn hP) (show P ≤ 48 by have := h.l1; omega))
  have hl : less st 1 = st.take P := less_take h.hn hP
  have Lbk := Lib.hid (And.intro h.hnb h.l2)
  have HLOW := Lib.hid h.sb.low.2
  have FO := Lib.hid (fun (wc : World) (cx : Array Value) (h' : SB W g x r (cells10 ip hh vs0 vb0 vm0 ou inn rd stt cd) cx (.slice so P sc) (.slice bo nb bc) (.slice mo nm mc) (st.take P) bk me wc) => refFault_own (vs0 := vs0) (vb0 := vb0) (vm0 := vm0) (m0 := ⟨ip, hh, st, bk, me, ou, inn, rd, stt, cd⟩) (m := ⟨ip, hh, st.take P, bk, me, ou, inn, rd, stt, cd⟩) h' (by show bk.length ≤ 48; rw [h.hnb]; exact h.l2) (by show (st.take P).length ≤ 48; rw [Lst.out.1]; exact Lst.out.2) p)
  rw [show exec 45 ⟨ip, hh, st, bk, me, ou, inn, rd, stt, cd⟩ i arg = (Mach.fault ⟨ip, hh, st.take P, bk, me, ou, inn, rd, stt, cd⟩ (p) : M) from by simp only [exec, h.hp, h.hq, h.hr, if_neg hz, hl]]
  obtain ⟨i0, q1, q2, q3, q4⟩ := int_facts
  have HI := Lib.hid (And.intro q1 (And.intro q2 (And.intro q3 q4)))
  clear q1 q2 q3 q4
  clear hP
  clear h
  unfold Way
  intros
  conv => arg 2; whnf
  go_wp2_with (first
    | (refine ld_int (by rfl) _ rfl _ rfl _ (whole_cell HS.out.hg rfl) ?_)
    | (refine st_ints (by rfl) _ _ rfl x _ rfl _ rfl rfl _ _ HS.out.hx (Nat.le_of_ble_eq_true rfl) ?_; intro wn hx ht; have HS := Lib.hid (HS.out.set hx ht); clear hx ht)
    | (refine st_int (by rfl) _ _ rfl x _ rfl _ rfl rfl _ _ HS.out.hx (Nat.le_of_ble_eq_true rfl) ?_; intro wn hx ht; have HS := Lib.hid (HS.out.set hx ht); clear hx ht)
    | (refine ld_state (by rfl) _ rfl _ rfl _ _ HS.out.hx rfl ?_)
    | (go_at_call 50; refine (FO.out _ _ HS.out).mono ?_; rintro e wn ⟨s1, n1, c1', s2, n2, c2', s3, n3, c3', rfl, hk, hb⟩; have HKM := Lib.hid hk; have HRR := Lib.hid (boxOn HS.out.hr hb); clear hk hb)
    | (refine st_state (by rfl) _ _ rfl r _ rfl rfl _ _ HRR.out rfl rfl (all_one rfl rfl rfl) ?_; intro wf hrf htf; have HRF := Lib.hid hrf; have HTF := Lib.hid htf; clear hrf htf))
  refine bodyPost_ret (results_cell_row rfl _ _ r _ _ _ _ rfl HRF.out Tryz.underlying24 rfl state_size) rfl ?_
  exact KinM.box HKM.out HRR.out HLOW.out HTF.out
end
end Go.Proofs.YtcffbeihgchpgaaGreatDoor.Inn
/- The document's own step (chapter 9): ways of the switch (4). -/
namespace Go.Proofs.YtcffbeihgchpgaaGreatDoor.Inn
open Go.RowKit Book Mem Mach
set_option linter.unusedVariables false
set_option linter.unusedSimpArgs false
section
variable {W w : World} {g x r : Nat} {ip hh i arg : Int} {st bk me : List Int} {ou inn : ByteArray} {rd stt cd : Int} {vs0 vb0 vm0 : Value} {so bo mo : Option Addr} {n nb nm sc bc mc : Nat} {p q r3 : Int}
set_option maxHeartbeats 8000000 in
set_option maxRecDepth 1000000 in
theorem way1_low (h : Got W w g x r ip hh i st bk me ou inn rd stt cd vs0 vb0 vm0 so bo mo n nb nm sc bc mc p q r3) (hc : hh < 3) :
    Way w g x r 1 arg n nb p q r3 (.slice so n sc) (TellsK vs0 vb0 vm0 ⟨ip, hh, st, bk, me, ou, inn, rd, stt, cd⟩ (exec 1 ⟨ip, hh, st, bk, me, ou, inn, rd, stt, cd⟩ i arg) W) := by
  have HGT := Lib.hid h
  have HS := Lib.hid h.sb
  have Lst := Lib.hid (And.intro h.hn h.l1)
  have Lbk := Lib.hid (And.intro h.hnb h.l2)
  have FT := Lib.hid (fun wc (hw : Below W.heap.size W wc) => refFault_told (m := ⟨ip, hh, st, bk, me, ou, inn, rd, stt, cd⟩) h.rs h.rb h.rm (by show bk.length ≤ 48; rw [h.hnb]; exact h.l2) (by show st.length ≤ 48; rw [h.hn]; exact h.l1) hw (-25))
  have HLOW := Lib.hid h.sb.low.2
  rw [show exec 1 ⟨ip, hh, st, bk, me, ou, inn, rd, stt, cd⟩ i arg = (Mach.fault ⟨ip, hh, st, bk, me, ou, inn, rd, stt, cd⟩ (-25) : M) from by simp only [exec]; rw [if_pos (Or.inl hc)]]
  obtain ⟨i0, q1, q2, q3, q4⟩ := int_facts
  have HI := Lib.hid (And.intro q1 (And.intro q2 (And.intro q3 q4)))
  clear q1 q2 q3 q4
  clear h
  unfold Way
  intros
  conv => arg 2; whnf
  go_wp2_with (first
    | (refine ld_int (by rfl) _ rfl _ rfl _ (whole_cell HS.out.hx rfl) ?_)
    | (refine ld_state (by rfl) _ rfl _ rfl _ _ HS.out.hg rfl ?_)
    | (go_at_call 50; refine (FT.out _ HS.out.hb).mono ?_; rintro e wn ⟨s1, n1, c1', s2, n2, c2', s3, n3, c3', rfl, hk, hb⟩; have HKM := Lib.hid hk; have HRR := Lib.hid (boxOn HS.out.hr hb); clear hk hb)
    | (refine st_state (by rfl) _ _ rfl r _ rfl rfl _ _ HRR.out rfl rfl (all_one rfl rfl rfl) ?_; intro wf hrf htf; have HRF := Lib.hid hrf; have HTF := Lib.hid htf; clear hrf htf))
  refine bodyPost_ret (results_cell_row rfl _ _ r _ _ _ _ rfl HRF.out Tryz.underlying24 rfl state_size) rfl ?_
  exact KinM.box HKM.out HRR.out HLOW.out HTF.out
set_option maxHeartbeats 8000000 in
set_option maxRecDepth 1000000 in
theorem way1_off (h : Got W w g x r ip hh i st bk me ou inn rd stt cd vs0 vb0 vm0 so bo mo n nb nm sc bc mc p q r3) (hc : ¬ hh < 3) (hc2 : ¬ (nb : Int) = hh) :
    Way w g x r 1 arg n nb p q r3 (.slice so n sc) (TellsK vs0 vb0 vm0 ⟨ip, hh, st, bk, me, ou, inn, rd, stt, cd⟩ (exec 1 ⟨ip, hh, st, bk, me, ou, inn, rd, stt, cd⟩ i arg) W) := by
  have HGT := Lib.hid h
  have HS := Lib.hid h.sb
  have Lst := Lib.hid (And.intro h.hn h.l1)
  have Lbk := Lib.hid (And.intro h.hnb h.l2)
  have FT := Lib.hid (fun wc (hw : Below W.heap.size W wc) => refFault_told (m := ⟨ip, hh, st, bk, me, ou, inn, rd, stt, cd⟩) h.rs h.rb h.rm (by show bk.length ≤ 48; rw [h.hnb]; exact h.l2) (by show st.length ≤ 48; rw [h.hn]; exact h.l1) hw (-25))
  have HLOW := Lib.hid h.sb.low.2
  rw [show exec 1 ⟨ip, hh, st, bk, me, ou, inn, rd, stt, cd⟩ i arg = (Mach.fault ⟨ip, hh, st, bk, me, ou, inn, rd, stt, cd⟩ (-25) : M) from by simp only [exec]; rw [if_pos (Or.inr (by rw [h.hnb]; exact hc2))]]
  obtain ⟨i0, q1, q2, q3, q4⟩ := int_facts
  have HI := Lib.hid (And.intro q1 (And.intro q2 (And.intro q3 q4)))
  clear q1 q2 q3 q4
  clear h
  unfold Way
  intros
  conv => arg 2; whnf
  go_wp2_with (first
    | (refine ld_int (by rfl) _ rfl _ rfl _ (whole_cell HS.out.hx rfl) ?_)
    | (refine ld_state (by rfl) _ rfl _ rfl _ _ HS.out.hg rfl ?_)
    | (go_at_call 50; refine (FT.out _ HS.out.hb).mono ?_; rintro e wn ⟨s1, n1, c1', s2, n2, c2', s3, n3, c3', rfl, hk, hb⟩; have HKM := Lib.hid hk; have HRR := Lib.hid (boxOn HS.out.hr hb); clear hk hb)
    | (refine st_state (by rfl) _ _ rfl r _ rfl rfl _ _ HRR.out rfl rfl (all_one rfl rfl rfl) ?_; intro wf hrf htf; have HRF := Lib.hid hrf; have HTF := Lib.hid htf; clear hrf htf))
  refine bodyPost_ret (results_cell_row rfl _ _ r _ _ _ _ rfl HRF.out Tryz.underlying24 rfl state_size) rfl ?_
  exact KinM.box HKM.out HRR.out HLOW.out HTF.out
set_option maxHeartbeats 8000000 in
set_option maxRecDepth 1000000 in
theorem way1_full (h : Got W w g x r ip hh i st bk me ou inn rd stt cd vs0 vb0 vm0 so bo mo n nb nm sc bc mc p q r3) (hc : ¬ hh < 3) (hc2 : (nb : Int) = hh) (hc3 : 48 ≤ n) :
    Way w g x r 1 arg n nb p q r3 (.slice so n sc) (TellsK vs0 vb0 vm0 ⟨ip, hh, st, bk, me, ou, inn, rd, stt, cd⟩ (exec 1 ⟨ip, hh, st, bk, me, ou, inn, rd, stt, cd⟩ i arg) W) := by
  have HGT := Lib.hid h
  have HS := Lib.hid h.sb
  have Lst := Lib.hid (And.intro h.hn h.l1)
  have Lbk := Lib.hid (And.intro h.hnb h.l2)
  have FT := Lib.hid (fun wc (hw : Below W.heap.size W wc) => refFault_told (m := ⟨ip, hh, st, bk, me, ou, inn, rd, stt, cd⟩) h.rs h.rb h.rm (by show bk.length ≤ 48; rw [h.hnb]; exact h.l2) (by show st.length ≤ 48; rw [h.hn]; exact h.l1) hw (-3))
  have HLOW := Lib.hid h.sb.low.2
  rw [show exec 1 ⟨ip, hh, st, bk, me, ou, inn, rd, stt, cd⟩ i arg = (Mach.fault ⟨ip, hh, st, bk, me, ou, inn, rd, stt, cd⟩ (-3) : M) from by simp only [exec]; rw [if_neg (by rw [h.hnb]; omega), if_pos (by rw [h.hn]; exact hc3)]]
  obtain ⟨i0, q1, q2, q3, q4⟩ := int_facts
  have HI := Lib.hid (And.intro q1 (And.intro q2 (And.intro q3 q4)))
  clear q1 q2 q3 q4
  clear h
  unfold Way
  intros
  conv => arg 2; whnf
  go_wp2_with (first
    | (refine ld_int (by rfl) _ rfl _ rfl _ (whole_cell HS.out.hx rfl) ?_)
    | (refine ld_state (by rfl) _ rfl _ rfl _ _ HS.out.hg rfl ?_)
    | (go_at_call 50; refine (FT.out _ HS.out.hb).mono ?_; rintro e wn ⟨s1, n1, c1', s2, n2, c2', s3, n3, c3', rfl, hk, hb⟩; have HKM := Lib.hid hk; have HRR := Lib.hid (boxOn HS.out.hr hb); clear hk hb)
    | (refine st_state (by rfl) _ _ rfl r _ rfl rfl _ _ HRR.out rfl rfl (all_one rfl rfl rfl) ?_; intro wf hrf htf; have HRF := Lib.hid hrf; have HTF := Lib.hid htf; clear hrf htf))
  refine bodyPost_ret (results_cell_row rfl _ _ r _ _ _ _ rfl HRF.out Tryz.underlying24 rfl state_size) rfl ?_
  exact KinM.box HKM.out HRR.out HLOW.out HTF.out
end
end Go.Proofs.YtcffbeihgchpgaaGreatDoor.Inn
